/- For every word, place and length of a field and value, brought into their bounds: what is put is got, the bits beside the field are as they were, and what was got, put again, makes the word: the law BitsBack returns true for every input. No condition. -/
import Derived.Test.YtenakllafignmaaRows
import Derived.WalkKit
import Derived.ProofKit
import Derived.OpenShut
import Derived.Test.YtenakllafignmaaWorks
namespace Go.Proofs.Ytenakllafignmaa.bitsBack
open Go.ChangeShapes Go.WideShapes Go.ChangeAt Go.RowKit
set_option linter.unusedVariables false

theorem own : ownKnob Try.prog.godebug = none := by kernel_rfl

theorem get_one (W k : Nat) (w : World) (hW : W < 18446744073709551616) (hk : k < 64) :
    Calls Try.prog 9 #[.int .u64 W, .int .i64 k, .int .i64 1] w fun e w' => e = .returned (.tuple #[.int .u64 (M.getN W k 1 : Nat), .int .i64 0]) ∧ ∃ q, w' = w.drewN q :=
  get_yes W k 1 w hW (by omega) (by omega)

theorem args (a1 a2 : Int) : ∃ U V n a : Nat, IntKind.u64.wrap a2 = (U : Int) ∧ IntKind.u64.wrap a1 = (V : Int) ∧ 1 + (U : Int) % 64 = (n : Int) ∧ (V : Int) % (65 - (n : Int)) = (a : Int) ∧ 1 ≤ n ∧ n ≤ 64 ∧ a + n ≤ 64 := by
  obtain ⟨U, hU, _⟩ := M.wrap_nat a2
  obtain ⟨V, hV, _⟩ := M.wrap_nat a1
  have h1 : U % 64 < 64 := Nat.mod_lt _ (by decide)
  have h2 : V % (65 - (1 + U % 64)) < 65 - (1 + U % 64) := Nat.mod_lt _ (by omega)
  refine ⟨U, V, 1 + U % 64, V % (65 - (1 + U % 64)), hU, hV, by omega, ?_, by omega, by omega, by omega⟩
  rw [Int.natCast_emod]
  have e : ((65 - (1 + U % 64) : Nat) : Int) = 65 - ((1 + U % 64 : Nat) : Int) := by omega
  rw [e]

theorem cut (n v : Nat) (h : n < 64) : ∃ P v' : Nat, IntKind.u64.wrap (2 ^ n) = (P : Int) ∧ (v : Int) % (P : Int) = (v' : Int) ∧ 1 ≤ P ∧ v' < 2 ^ n := by
  have h1 : 1 ≤ 2 ^ n := Nat.one_le_two_pow
  have h2 : 2 ^ n < 2 ^ 64 := Nat.pow_lt_pow_right (by omega) h
  refine ⟨2 ^ n, v % 2 ^ n, ?_, (Int.natCast_emod v (2 ^ n)).symm, h1, Nat.mod_lt _ (by omega)⟩
  rw [IntKind.wrap_u64, show ((2 : Int) ^ n) = ((2 ^ n : Nat) : Int) by simp]
  generalize 2 ^ n = P at h1 h2
  omega

theorem bne_self (x : Nat) : ((x : Int) != (x : Int)) = false := by simp

set_option maxHeartbeats 1000000 in
theorem core (a1 a2 v0 : Int) (U V W a n v X : Nat) (w : World) (hU : IntKind.u64.wrap a2 = (U : Int)) (hV : IntKind.u64.wrap a1 = (V : Int)) (hn : 1 + (U : Int) % 64 = (n : Int)) (ha : (V : Int) % (65 - (n : Int)) = (a : Int))
    (h0 : 1 ≤ n) (h64 : n ≤ 64) (h1 : a + n ≤ 64) (hW : W < 18446744073709551616) (hX : X < 18446744073709551616)
    (hv : n < 64 ∧ (∃ P : Nat, IntKind.u64.wrap (2 ^ n) = (P : Int) ∧ v0.tmod (P : Int) = (v : Int) ∧ 1 ≤ P) ∨ 64 ≤ n ∧ v0 = (v : Int))
    (c1 : ∀ w, Calls Try.prog 11 #[.int .u64 W, .int .i64 a, .int .i64 n, .int .u64 v] w fun e w' => e = .returned (.tuple #[.int .u64 X, .int .i64 0]) ∧ ∃ q, w' = w.drewN q)
    (c2 : ∀ w, Calls Try.prog 9 #[.int .u64 X, .int .i64 a, .int .i64 n] w fun e w' => e = .returned (.tuple #[.int .u64 v, .int .i64 0]) ∧ ∃ q, w' = w.drewN q)
    (c3 : ∀ k, k < 64 → (k < a ∨ a + n ≤ k) → M.getN X k 1 = M.getN W k 1)
    (c4 : ∀ w, Calls Try.prog 9 #[.int .u64 W, .int .i64 a, .int .i64 n] w fun e w' => e = .returned (.tuple #[.int .u64 (M.getN W a n : Nat), .int .i64 0]) ∧ ∃ q, w' = w.drewN q)
    (c5 : ∀ w, Calls Try.prog 11 #[.int .u64 X, .int .i64 a, .int .i64 n, .int .u64 (M.getN W a n : Nat)] w fun e w' => e = .returned (.tuple #[.int .u64 W, .int .i64 0]) ∧ ∃ q, w' = w.drewN q) :
    Calls Try.prog 6 #[.int .u64 W, .int .i64 a1, .int .i64 a2, .int .u64 v0] w fun e w' => e = .returned (.bool true) ∧ Grown w w' := by
  have C1 : Hid (∀ w, Calls Try.prog 11 #[.int .u64 W, .int .i64 a, .int .i64 n, .int .u64 v] w fun e w' => e = .returned (.tuple #[.int .u64 X, .int .i64 0]) ∧ ∃ q, w' = w.drewN q) := c1
  have C2 : Hid (∀ w, Calls Try.prog 9 #[.int .u64 X, .int .i64 a, .int .i64 n] w fun e w' => e = .returned (.tuple #[.int .u64 v, .int .i64 0]) ∧ ∃ q, w' = w.drewN q) := c2
  have C3 : Hid (∀ k, k < 64 → (k < a ∨ a + n ≤ k) → M.getN X k 1 = M.getN W k 1) := c3
  have C4 : Hid (∀ w, Calls Try.prog 9 #[.int .u64 W, .int .i64 a, .int .i64 n] w fun e w' => e = .returned (.tuple #[.int .u64 (M.getN W a n : Nat), .int .i64 0]) ∧ ∃ q, w' = w.drewN q) := c4
  have C5 : Hid (∀ w, Calls Try.prog 11 #[.int .u64 X, .int .i64 a, .int .i64 n, .int .u64 (M.getN W a n : Nat)] w fun e w' => e = .returned (.tuple #[.int .u64 W, .int .i64 0]) ∧ ∃ q, w' = w.drewN q) := c5
  clear c1 c2 c3 c4 c5
  rcases hv with ⟨hlt, P, hP, hv, hP1⟩ | ⟨h64', rfl⟩
  all_goals
    go_enter Try.func6, Try.ntmps6
    go_wp2_with fail
    refine (works_any _).mono ?_
    rintro e w1 ⟨rfl, q, rfl⟩
    go_wp2_with fail
    clear hU hV hn ha
    refine (C1.out _).mono ?_
    rintro e w1 ⟨rfl, q1, rfl⟩
    go_wp2_with fail
    refine (C2.out _).mono ?_
    rintro e w1 ⟨rfl, q2, rfl⟩
    go_wp2_with fail
    go_loopw [13] (fun i wr => ∃ k : Nat, k ≤ 64 ∧ i = .int .i64 k ∧ ∃ q, wr = w.drewN q) (fun i _ => 64 - (intOf i).toNat)
    case atStart => exact ⟨0, by omega, rfl, _, rfl⟩
    case round =>
      obtain ⟨k, hk, rfl, qr, rfl⟩ := hrel
      by_cases hlt : k < 64
      · have G1 : Hid (∀ w, Calls Try.prog 9 #[.int .u64 W, .int .i64 k, .int .i64 1] w fun e w' => e = .returned (.tuple #[.int .u64 (M.getN W k 1 : Nat), .int .i64 0]) ∧ ∃ q, w' = w.drewN q) := fun w => get_one W k w hW hlt
        have G2 : Hid (∀ w, Calls Try.prog 9 #[.int .u64 X, .int .i64 k, .int .i64 1] w fun e w' => e = .returned (.tuple #[.int .u64 (M.getN X k 1 : Nat), .int .i64 0]) ∧ ∃ q, w' = w.drewN q) := fun w => get_one X k w hX hlt
        have D := C3.out k hlt
        clear C1 C2 C3 C4 C5
        by_cases c1 : k < a
        · try (exfalso; omega)
          all_goals
            rw [D (Or.inl c1)] at G2
            clear D
            go_wp2_with fail
            refine (G1.out _).mono ?_
            rintro e w1 ⟨rfl, q3, rfl⟩
            go_wp2_with fail
            refine (G2.out _).mono ?_
            rintro e w1 ⟨rfl, q4, rfl⟩
            go_wp2
            go_roundw
            case rel => exact ⟨k + 1, by omega, by go_num, _, rfl⟩
            case measure => simp [intOf]; omega
        · by_cases c2 : a + n ≤ k
          · try (exfalso; omega)
            all_goals
              rw [D (Or.inr c2)] at G2
              clear D
              go_wp2_with fail
              refine (G1.out _).mono ?_
              rintro e w1 ⟨rfl, q3, rfl⟩
              go_wp2_with fail
              refine (G2.out _).mono ?_
              rintro e w1 ⟨rfl, q4, rfl⟩
              go_wp2
              go_roundw
              case rel => exact ⟨k + 1, by omega, by go_num, _, rfl⟩
              case measure => simp [intOf]; omega
          · clear D
            go_wp2_with fail
            refine (G1.out _).mono ?_
            rintro e w1 ⟨rfl, q3, rfl⟩
            go_wp2_with fail
            refine (G2.out _).mono ?_
            rintro e w1 ⟨rfl, q4, rfl⟩
            go_wp2
            go_roundw
            case rel => exact ⟨k + 1, by omega, by go_num, _, rfl⟩
            case measure => simp [intOf]; omega
      · go_wp2_with fail
        refine (C4.out _).mono ?_
        rintro e w1 ⟨rfl, q3, rfl⟩
        go_wp2_with fail
        refine (C5.out _).mono ?_
        rintro e w1 ⟨rfl, q4, rfl⟩
        go_wp2
        go_ret
        exact ⟨rfl, Grown.refl w⟩

/-! ### STEP 1: THE WALK: the Go text returns true. 'Grown w w'': the world has at most new blocks (Derived/RowKit3.lean). Part the cases AHEAD of 'go_enter' where a test parts the walk; take each callee by a contract of your own. -/
theorem walk (a0 : Int) (a1 : Int) (a2 : Int) (a3 : Int) (w0 : (Lit.int .u64 a0).wf = true) (w1 : (Lit.int .i64 a1).wf = true) (w2 : (Lit.int .i64 a2).wf = true) (w3 : (Lit.int .u64 a3).wf = true) (w : World) :
    Calls Try.prog 6 #[.int .u64 a0, .int .i64 a1, .int .i64 a2, .int .u64 a3] w fun e w' => e = .returned (.bool true) ∧ Grown w w' := by
  obtain ⟨b0, c0⟩ := bounds_u64 w0
  obtain ⟨b3, c3⟩ := bounds_u64 w3
  obtain ⟨W, rfl⟩ := Int.eq_ofNat_of_zero_le b0
  obtain ⟨v0, rfl⟩ := Int.eq_ofNat_of_zero_le b3
  have hW : W < 18446744073709551616 := by omega
  have hv0 : v0 < 18446744073709551616 := by omega
  obtain ⟨U, V, n, a, hU, hV, hn, ha, h0, h64, h1⟩ := args a1 a2
  clear w0 w1 w2 w3 b0 b3 c0 c3
  obtain ⟨v, hv, hor⟩ : ∃ v : Nat, v < 2 ^ n ∧ (n < 64 ∧ (∃ P : Nat, IntKind.u64.wrap (2 ^ n) = (P : Int) ∧ (v0 : Int).tmod (P : Int) = (v : Int) ∧ 1 ≤ P) ∨ 64 ≤ n ∧ (v0 : Int) = (v : Int)) := by
    by_cases h : n < 64
    · obtain ⟨P, v', e1, e2, e3, e4⟩ := cut n v0 h
      exact ⟨v', e4, Or.inl ⟨h, P, e1, by rw [Int.tmod_eq_emod_of_nonneg (by omega)]; exact e2, e3⟩⟩
    · have : n = 64 := by omega
      subst this
      exact ⟨v0, by simpa using hv0, Or.inr ⟨Nat.le_refl _, rfl⟩⟩
  refine core a1 a2 v0 U V W a n v (M.putN W a n v) w hU hV hn ha h0 h64 h1 hW (M.putN_lt W a n v h1 hv) hor (fun w => put_yes W a n v w hW h0 h1 hv) (fun w => ?_) (fun k hk ho => M.get_other W a n v k hW h1 hv ho) (fun w => get_yes W a n w hW h0 h1) (fun w => ?_)
  · have h := get_yes (M.putN W a n v) a n w (M.putN_lt W a n v h1 hv) h0 h1
    rw [M.get_put W a n v hW h1 hv] at h
    exact h
  · have h := put_yes (M.putN W a n v) a n (M.getN W a n) w (M.putN_lt W a n v h1 hv) h0 h1 (M.getN_lt W a n)
    rw [M.put_get W a n v hW h1 hv] at h
    exact h

/-! ### THE ROW's STEP: WRITTEN OUT: LEAVE IT -/
set_option maxRecDepth 100000 in
theorem lifted (os : Os) (started : os.Started) (H : Type) (enc : TypeId × Value → H) :
    ReturnsInHanded {} Try.checked os 6 .any (Rows.bitsBackSpec.pre6 enc Try.prog Try.f6 Rows.bitsBackRow.domain false) (Rows.bitsBackSpec.post enc Try.prog Try.f6 false true false false) := by
  refine returnsInHanded_of_change (C := Try.checked) own started (by kernel_rfl) Try.func6
    (ChangeSpec.witness6 (enc := enc) (C := Try.checked) false ⟨#[], #[.int .u64 0, .int .i64 0, .int .i64 0, .int .u64 0], []⟩ 8 (by kernel_rfl) (by kernel_rfl) (by kernel_rfl) (by kernel_rfl)) ?_
  intro W base args ds gs before hval0 hW hcnd _
  have hval : ∀ (j : Nat) t v, Try.f6.params[j]? = some t → args[j]? = some v → Value.okWide Try.prog W .any base t v := hval0
  have hW' := hW
  obtain ⟨p, q, hA0, hV, rfl, hfz, hnd⟩ := hW
  have hA : DataW.TrodAll enc Try.prog W 0 (fun _ => true) true Try.f6.params.toList args.toList ds p := hA0
  rw [Try.params6] at hA hval
  obtain ⟨v0, vs0, d0, ds0, p0, q0, hargs, rfl, rfl, h0, r0⟩ := trodAll_cons hA
  obtain ⟨v1, vs1, d1, ds1, p1, q1, rfl, rfl, rfl, h1, r1⟩ := trodAll_cons r0
  obtain ⟨v2, vs2, d2, ds2, p2, q2, rfl, rfl, rfl, h2, r2⟩ := trodAll_cons r1
  obtain ⟨v3, vs3, d3, ds3, p3, q3, rfl, rfl, rfl, h3, r3⟩ := trodAll_cons r2
  obtain ⟨rfl, rfl, rfl⟩ := trodAll_nil r3
  obtain rfl : args = #[v0, v1, v2, v3] := by cases args; simp_all
  obtain ⟨rfl, rfl⟩ := trodVars_none hV
  obtain ⟨a0, rfl, rfl, rfl, w0⟩ := open_int Try.underlying22 (hval 0 22 v0 rfl rfl) h0
  obtain ⟨a1, rfl, rfl, rfl, w1⟩ := open_int Try.underlying3 (hval 1 3 v1 rfl rfl) h1
  obtain ⟨a2, rfl, rfl, rfl, w2⟩ := open_int Try.underlying3 (hval 2 3 v2 rfl rfl) h2
  obtain ⟨a3, rfl, rfl, rfl, w3⟩ := open_int Try.underlying22 (hval 3 22 v3 rfl rfl) h3
  clear hA0 hval0
  simp only [List.append_nil] at hW'
  refine (walk a0 a1 a2 a3 w0 w1 w2 w3 W).mono fun e W' ⟨he, hg⟩ => ?_
  subst he
  exact ⟨_, rfl, post_of_same (pa := []) (pv := []) hW' (fun _ _ _ => (trodAll_cons_mk (shut_bool Try.underlying4 _) trodAll_mk0)) (fun sp _ => (trodAll_cons_mk (shut_int Try.underlying22 w0) (trodAll_cons_mk (shut_int Try.underlying3 w1) (trodAll_cons_mk (shut_int Try.underlying3 w2) (trodAll_cons_mk (shut_int Try.underlying22 w3) trodAll_mk0))))) (fun _ _ => rfl) rfl
    (hg.frame _) hg.2.1 (ok_one (by kernel_rfl) rfl (okWide_bool_mk Try.underlying4 _))⟩

theorem over : Rows.bitsBackRow.holds Try.pinned (OpenSpec.ofChange Rows.bitsBackSpec) :=
  OpenClaim.holds_of_wide 6 Try.f6 rfl rfl rfl rfl rfl rfl rfl ⟨rfl, rfl, rfl, rfl, rfl⟩ rfl rfl rfl rfl rfl (by kernel_rfl) Try.func6 (by kernel_rfl)
    (of_decide_eq_true (by kernel_rfl)) (by unfold Func.isWrapper; first | (rw [if_pos (by decide +kernel)]; kernel_rfl) | (rw [if_neg (by decide +kernel)]; exact ⟨rfl, rfl⟩))
    (fun os started H enc _ => lifted os started H enc)

theorem proved : Rows.BitsBackSaid :=
  over
end Go.Proofs.Ytenakllafignmaa.bitsBack
namespace Go.Proofs.Ytenakllafignmaa
theorem bitsBack_holds : Rows.BitsBackSaid := bitsBack.proved
#print axioms bitsBack_holds
end Go.Proofs.Ytenakllafignmaa
