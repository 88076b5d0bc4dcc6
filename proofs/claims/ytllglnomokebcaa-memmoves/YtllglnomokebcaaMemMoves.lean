/- For every size, every list of words, every two places and every length, brought into their bounds: words that Copy copies are what they were at the place they were copied from, wherever they overlap, and all others are as they were, as the given function MemMoves asks; no condition. -/
import Derived.Test.YtllglnomokebcaaRows
import Derived.WalkKit
import Derived.ProofKit
import Derived.OpenShut
import Derived.Test.YtllglnomokebcaaWorks
import Derived.ShutString
import Derived.ChangeOld
import Derived.Below
namespace Go.Proofs.Ytllglnomokebcaa.memMoves
open Go.ChangeShapes Go.WideShapes Go.ChangeAt Go.RowKit
open Go.ChangeMaps (open_string shut_string)
set_option linter.unusedVariables false

theorem own : ownKnob Try.prog.godebug = none := by kernel_rfl
theorem laidOut : laidOutB Try.prog = true := by kernel_rfl

/-- WHAT THE WALK IS TOLD OF A SLICE OF INTEGERS THAT CAME IN: it is nil; or it leads to a row of 'cap' cells, the numbers 'zs' (the first 'len' are its elements, the rest its spare room), each fitting its kind. -/
def IsRow (k : IntKind) (w : World) (a : Option Addr) (len cap : Nat) (zs : List Int) : Prop :=
  (a = none ∧ len = 0 ∧ cap = 0 ∧ zs = []) ∨
  ∃ x, a = some x ∧ len ≤ cap ∧ cap ≤ maxLen ∧ zs.length = cap ∧ (∀ i, i < zs.length → w.cell? (x.add i) = some (.int k (zs.getD i 0))) ∧ ∀ n ∈ zs, (Lit.int k n).wf = true

theorem cells {k : IntKind} {w : World} {a : Option Addr} {len cap : Nat} {zs : List Int} (h : IsRow k w a len cap zs) : ∀ i, i < len → ∃ x z, a = some x ∧ w.cell? (x.add i) = some (.int k z) := by
  intro i hi
  rcases h with ⟨_, rfl, _⟩ | ⟨x, rfl, h1, _, h3, h4, _⟩
  · omega
  · exact ⟨x, _, rfl, h4 i (by omega)⟩

theorem nOf (a0 a1 a2 a3 : Int) : ∃ U n V A X C Y k : Nat, IntKind.u64.wrap a0 = (U : Int) ∧ 64 + (U : Int) % 200 = (n : Int) ∧ 64 ≤ n ∧ n ≤ 263 ∧ IntKind.u64.wrap a1 = (V : Int) ∧ (V : Int) % (n : Int) = (A : Int) ∧ IntKind.u64.wrap a2 = (X : Int) ∧ (X : Int) % (n : Int) = (C : Int) ∧
    A < n ∧ C < n ∧ IntKind.u64.wrap a3 = (Y : Int) ∧ (A < C ∧ (Y : Int) % (1 + (n : Int) - (C : Int)) = (k : Int) ∨ ¬ A < C ∧ (Y : Int) % (1 + (n : Int) - (A : Int)) = (k : Int)) ∧ A + k ≤ n ∧ C + k ≤ n := by
  obtain ⟨U, hU, _⟩ := wrapNat a0
  obtain ⟨V, hV, _⟩ := wrapNat a1
  obtain ⟨X, hX, _⟩ := wrapNat a2
  obtain ⟨Y, hY, _⟩ := wrapNat a3
  obtain ⟨A, hA, hA2⟩ := modNat V (64 + U % 200) (by omega)
  obtain ⟨C, hC, hC2⟩ := modNat X (64 + U % 200) (by omega)
  obtain ⟨k, hk, hk2⟩ := modNat Y (1 + (64 + U % 200) - max A C) (by omega)
  refine ⟨U, 64 + U % 200, V, A, X, C, Y, k, hU, by omega, by omega, by omega, hV, hA, hX, hC, hA2, hC2, hY, ?_, by omega, by omega⟩
  rw [← hk]
  by_cases h : A < C
  · exact .inl ⟨h, by congr 1; omega⟩
  · exact .inr ⟨h, by congr 1; omega⟩

set_option maxHeartbeats 2000000 in
theorem core (a0 a1 a2 a3 : Int) (U n V A X C Y k : Nat) (a4 : Option Addr) (len1 cap1 : Nat) (w : World) (hU : IntKind.u64.wrap a0 = (U : Int)) (hn : 64 + (U : Int) % 200 = (n : Int)) (n1 : 64 ≤ n) (n2 : n ≤ 263)
    (hV : IntKind.u64.wrap a1 = (V : Int)) (hA : (V : Int) % (n : Int) = (A : Int)) (hX : IntKind.u64.wrap a2 = (X : Int)) (hC : (X : Int) % (n : Int) = (C : Int)) (hAn : A < n) (hCn : C < n) (hY : IntKind.u64.wrap a3 = (Y : Int))
    (hk : A < C ∧ (Y : Int) % (1 + (n : Int) - (C : Int)) = (k : Int) ∨ ¬ A < C ∧ (Y : Int) % (1 + (n : Int) - (A : Int)) = (k : Int)) (hk1 : A + k ≤ n) (hk2 : C + k ≤ n)
    (h1 : ∀ i, i < len1 → ∃ x z, a4 = some x ∧ w.cell? (x.add i) = some (.int .u64 z)) :
    Calls Try.prog 5 #[.int .i64 a0, .int .i64 a1, .int .i64 a2, .int .i64 a3, .slice a4 len1 cap1] w fun e w' => e = .returned (.bool true) ∧ Below w.heap.size w w' := by
  have H1 := hideIt h1
  have HK := hideIt hk
  clear hk
  clear h1
  go_enter Try.func5, Try.ntmps5
  go_wp2_with fail
  refine (works_any _).mono ?_
  rintro e w1 ⟨rfl, hg1⟩
  go_wp2_with fail
  clear hU hn
  refine (new_yes _ n n1 (by omega)).mono ?_
  rintro e w2 ⟨p, b, rfl, hm2, hg2, hp, hb⟩
  go_wp2_with fail
  have s0 := hg1.size
  have hB2 : Below w.heap.size w w2 := ((Below.refl w.heap.size w).grown hg1 (Nat.le_refl _) (by simp)).grown hg2 s0 (by simp)
  have hbw : w.heap.size ≤ b := Nat.le_trans s0 hb
  have hpw : w.heap.size ≤ p := Nat.le_trans s0 hp
  clear hg2 hg1 hp hb s0
  go_loopw [13] (fun i wr => ∃ (k : Nat) (f : Nat → Int), k ≤ n ∧ i = .int .i64 k ∧ MemAt wr p b n f ∧ Below w.heap.size w wr) (fun i _ => n - (intOf i).toNat)
  case atStart => exact ⟨0, fun _ => 0, by omega, rfl, hm2, hB2⟩
  case round =>
    obtain ⟨j, f, hj, rfl, hm, hB⟩ := hrel
    by_cases c : j < len1 ∧ j < n
    · obtain ⟨c1, c2⟩ := c
      obtain ⟨x1, z1, rfl, e1⟩ := H1.out j c1
      have e1 := argCell hB e1
      go_wp2_with fail
      refine (put_yes _ p b n j z1 f hm c2).mono ?_
      rintro e w4 ⟨rfl, hm4, hg4⟩
      have hB4 : Below w.heap.size w w4 := gbBelow hB hg4 (Nat.le_refl _) (fun k hk => by simp at hk; omega)
      go_wp2
      go_roundw
      case rel => exact ⟨j + 1, fun i => if i = j then z1 else f i, by omega, by go_num, hm4, hB4⟩
      case measure => simp [intOf]; omega
    · rcases (show ¬ j < len1 ∨ (j < len1 ∧ ¬ j < n) by omega) with c1 | ⟨c1, c2⟩ <;> rcases HK.out with ⟨c3, hk⟩ | ⟨c3, hk⟩
      all_goals
        clear c
        go_wp2_with fail
        refine (read_yes _ p b n 0 n f hm (by omega)).mono ?_
        rintro e w5 ⟨g5, rfl, hr5, hg5, hw5⟩
        go_wp2
        go_quiet (fail)
        rename_i nq
        go_wp2_with fail
        clear hV hA hX hC hY hk
        have hb5 : b < wr.heap.size := hm.row.lt
        have hm5 := (hm.keep hg5 (by simp) (by simp)).drewN nq
        refine (copy_yes _ p b n A C k f hm5 hk1 hk2).mono ?_
        rintro e w6 ⟨rfl, hm6, hg6⟩
        have hr6 := rowKeep (rowKeep hr5 (gbDrewN w5 nq none) (by simp)) hg6 (by simp; omega)
        go_wp2_with fail
        refine (read_yes _ p b n 0 n _ hm6 (by omega)).mono ?_
        rintro e w7 ⟨g7, rfl, hr7, hg7, hw7⟩
        have hr8 := rowKeep hr6 hg7 (by simp)
        have hB7 : Below w.heap.size w w7 := gbBelow (gbBelow (gbBelow (gbBelow hB hg5 (Nat.le_refl _) (by simp)) (gbDrewN _ nq none) (Nat.le_refl _) (by simp)) hg6 (Nat.le_refl _) (fun k hk => by simp at hk; omega)) hg7 (Nat.le_refl _) (by simp)
        clear hr6 hm6 hg6 hm5 hr5 hg5 hB hm hB2 hm2 hw7 hw5
        go_wp2_with fail
        go_loop [18] (fun i => ∃ j : Nat, j ≤ n ∧ i = .int .i64 j) (fun i => n - (intOf i).toNat)
        case atStart => exact ⟨0, by omega, rfl⟩
        case round =>
          obtain ⟨j, hj, rfl⟩ := hrel
          by_cases hlt : j < n
          · have e1 := hr7.cell hlt
            have e2 := hr8.cell hlt
            rw [Nat.zero_add] at e1 e2
            rcases (show j < A ∨ (A ≤ j ∧ j < A + k) ∨ (A ≤ j ∧ ¬ j < A + k) by omega) with c | ⟨c, c'⟩ | ⟨c, c'⟩
            · rw [if_neg (by omega)] at e1
              go_wp2
              go_round
              case rel => exact ⟨j + 1, by omega, by go_num⟩
              case measure => simp [intOf]; omega
            · rw [if_pos ⟨c, c'⟩] at e1
              obtain ⟨l, rfl⟩ : ∃ l, j = A + l := ⟨j - A, by omega⟩
              have e3 := hr8.cell (show C + l < n by omega)
              have E1 : Hid (A + l - A = l) := hideIt (by omega)
              rw [E1.out] at e1
              rw [Nat.zero_add] at e3
              have E2 : (C : Int) + ((A : Int) + (l : Int)) - (A : Int) = ((C + l : Nat) : Int) := by omega
              go_wp2
              go_round
              case rel => exact ⟨A + l + 1, by omega, by go_num⟩
              case measure => simp [intOf]; omega
            · rw [if_neg (by omega)] at e1
              go_wp2
              go_round
              case rel => exact ⟨j + 1, by omega, by go_num⟩
              case measure => simp [intOf]; omega
          · go_wp2
            go_ret
            exact ⟨rfl, hB7⟩

/-! ### STEP 1: THE WALK: the Go text returns true, AND WRITES NOTHING THAT WAS THERE: 'Below w.heap.size w w'' (Derived/Below.lean: '.refl', '.alloc', '.drew', '.setCell' at a new block, '.trans'). Open each 'IsRow' by 'rcases' AHEAD of 'go_enter'; part every test ahead of the walk. -/
theorem walk (a0 : Int) (a1 : Int) (a2 : Int) (a3 : Int) (a4 : Option Addr) (len4 cap4 : Nat) (z4 : List Int) (w : World) (w0 : (Lit.int .i64 a0).wf = true) (w1 : (Lit.int .i64 a1).wf = true) (w2 : (Lit.int .i64 a2).wf = true) (w3 : (Lit.int .i64 a3).wf = true) (w4 : IsRow .u64 w a4 len4 cap4 z4) :
    Calls Try.prog 5 #[.int .i64 a0, .int .i64 a1, .int .i64 a2, .int .i64 a3, .slice a4 len4 cap4] w fun e w' => e = .returned (.bool true) ∧ Below w.heap.size w w' := by
  obtain ⟨U, n, V, A, X, C, Y, k, hU, hn, n1, n2, hV, hA, hX, hC, hAn, hCn, hY, hk, hk1, hk2⟩ := nOf a0 a1 a2 a3
  exact core a0 a1 a2 a3 U n V A X C Y k a4 len4 cap4 w hU hn n1 n2 hV hA hX hC hAn hCn hY hk hk1 hk2 (cells w4)

/-! ### THE ROW's STEP: WRITTEN OUT: LEAVE IT -/
set_option maxRecDepth 100000 in
theorem lifted (os : Os) (started : os.Started) (H : Type) (enc : TypeId × Value → H) :
    ReturnsInHanded {} Try.checked os 5 .any (Rows.memMovesSpec.pre6 enc Try.prog Try.f5 Rows.memMovesRow.domain false) (Rows.memMovesSpec.post enc Try.prog Try.f5 false true false false) := by
  refine returnsInHanded_of_change (C := Try.checked) own started (by kernel_rfl) Try.func5
    (ChangeSpec.witness6 (enc := enc) (C := Try.checked) false ⟨#[], #[.int .i64 0, .int .i64 0, .int .i64 0, .int .i64 0, .slice none 0 0], []⟩ 8 (by kernel_rfl) (by kernel_rfl) (by kernel_rfl) (by kernel_rfl)) ?_
  intro W base args ds gs before hval0 hW hcnd _
  have hval : ∀ (j : Nat) t v, Try.f5.params[j]? = some t → args[j]? = some v → Value.okWide Try.prog W .any base t v := hval0
  have hW' := hW
  obtain ⟨p, q, hA0, hV, rfl, hfz, hnd⟩ := hW
  have hA : DataW.TrodAll enc Try.prog W 0 (fun _ => true) true Try.f5.params.toList args.toList ds p := hA0
  rw [Try.params5] at hA hval
  obtain ⟨v0, vs0, d0, ds0, p0, q0, hargs, rfl, rfl, h0, r0⟩ := trodAll_cons hA
  obtain ⟨v1, vs1, d1, ds1, p1, q1, rfl, rfl, rfl, h1, r1⟩ := trodAll_cons r0
  obtain ⟨v2, vs2, d2, ds2, p2, q2, rfl, rfl, rfl, h2, r2⟩ := trodAll_cons r1
  obtain ⟨v3, vs3, d3, ds3, p3, q3, rfl, rfl, rfl, h3, r3⟩ := trodAll_cons r2
  obtain ⟨v4, vs4, d4, ds4, p4, q4, rfl, rfl, rfl, h4, r4⟩ := trodAll_cons r3
  obtain ⟨rfl, rfl, rfl⟩ := trodAll_nil r4
  obtain rfl : args = #[v0, v1, v2, v3, v4] := by cases args; simp_all
  obtain ⟨rfl, rfl⟩ := trodVars_none hV
  obtain ⟨a0, rfl, rfl, rfl, w0⟩ := open_int Try.underlying3 (hval 0 3 v0 rfl rfl) h0
  obtain ⟨a1, rfl, rfl, rfl, w1⟩ := open_int Try.underlying3 (hval 1 3 v1 rfl rfl) h1
  obtain ⟨a2, rfl, rfl, rfl, w2⟩ := open_int Try.underlying3 (hval 2 3 v2 rfl rfl) h2
  obtain ⟨a3, rfl, rfl, rfl, w3⟩ := open_int Try.underlying3 (hval 3 3 v3 rfl rfl) h3
  obtain ⟨a4, len4, cap4, rfl⟩ := okWide_slice Try.underlying36 (hval 4 36 v4 rfl rfl)
  have k4 := h4
  have lt4 : ∀ x ∈ p4, x.block < W.heap.size := by obtain ⟨m, hm⟩ := k4; exact DataW.trod_lt m _ _ _ hm
  obtain ⟨z4, w4⟩ : ∃ zs, IsRow .u64 W a4 len4 cap4 zs := by
    obtain ⟨fuel, hf⟩ := h4
    rcases open_ints Try.underlying36 Try.underlying30 (by kernel_rfl) hf with ⟨hcs, _⟩ | ⟨x, l, c, zs, hcs, _, hl, hm, hz, _, hcell, hwz⟩
    · simp [Value.cells] at hcs
      obtain ⟨rfl, rfl, rfl⟩ := hcs
      exact ⟨[], .inl ⟨rfl, rfl, rfl, rfl⟩⟩
    · simp [Value.cells] at hcs
      obtain ⟨rfl, rfl, rfl⟩ := hcs
      exact ⟨zs, .inr ⟨_, rfl, hl, hm, by simpa using hz, hcell, hwz⟩⟩
  clear hA0 hval0
  refine (walk a0 a1 a2 a3 a4 len4 cap4 z4 W w0 w1 w2 w3 w4).mono fun e W' ⟨he, bel⟩ => ?_
  subst he
  exact ⟨_, rfl, _, _, _, [], _, [], hW', trodAll_mk1 (shut_bool Try.underlying4 _), (trodAll_cons_mk (shut_int Try.underlying3 w0) (trodAll_cons_mk (shut_int Try.underlying3 w1) (trodAll_cons_mk (shut_int Try.underlying3 w2) (trodAll_cons_mk (shut_int Try.underlying3 w3) (trodAll_cons_mk (Below.trod laidOut (by kernel_rfl) (of_decide_eq_true (by kernel_rfl)) k4 bel lt4) trodAll_mk0))))), rfl, bel.frame _, fun h => by cases h⟩

theorem over : Rows.memMovesRow.holds Try.pinned (OpenSpec.ofChange Rows.memMovesSpec) :=
  OpenClaim.holds_of_wide 5 Try.f5 rfl rfl rfl rfl rfl rfl rfl ⟨rfl, rfl, rfl, rfl, rfl⟩ rfl rfl rfl rfl rfl (by kernel_rfl) Try.func5 (by kernel_rfl)
    (of_decide_eq_true (by kernel_rfl)) (by unfold Func.isWrapper; first | (rw [if_pos (by decide +kernel)]; kernel_rfl) | (rw [if_neg (by decide +kernel)]; exact ⟨rfl, rfl⟩))
    (fun os started H enc _ => lifted os started H enc)

theorem proved : Rows.MemMovesSaid := over
end Go.Proofs.Ytllglnomokebcaa.memMoves
namespace Go.Proofs.Ytllglnomokebcaa
theorem memMoves_holds : Rows.MemMovesSaid := memMoves.proved
#print axioms memMoves_holds
end Go.Proofs.Ytllglnomokebcaa
