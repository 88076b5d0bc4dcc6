/- For every size, every list of places and every list of words: a memory of 64 up to 1063 words in which the words are put at those places (as far as both lists go, a hundred at most) holds in the end at each place what was put there last, and nought elsewhere, as the given function MemKeeps asks; no condition. -/
import Derived.Test.YtllglnomokebcaaRows
import Derived.WalkKit
import Derived.ProofKit
import Derived.OpenShut
import Derived.Test.YtllglnomokebcaaWorks
import Derived.ShutString
import Derived.ChangeOld
import Derived.Below
namespace Go.Proofs.Ytllglnomokebcaa.memKeeps
open Go.ChangeShapes Go.WideShapes Go.ChangeAt Go.RowKit
open Go.ChangeMaps (open_string shut_string)
set_option linter.unusedVariables false

theorem own : ownKnob Try.prog.godebug = none := by kernel_rfl
theorem laidOut : laidOutB Try.prog = true := by kernel_rfl

/-- WHAT THE WALK IS TOLD OF A SLICE OF INTEGERS THAT CAME IN: it is nil; or it leads to a row of 'cap' cells, the numbers 'zs' (the first 'len' are its elements, the rest its spare room), each fitting its kind. -/
def IsRow (k : IntKind) (w : World) (a : Option Addr) (len cap : Nat) (zs : List Int) : Prop :=
  (a = none ∧ len = 0 ∧ cap = 0 ∧ zs = []) ∨
  ∃ x, a = some x ∧ len ≤ cap ∧ cap ≤ maxLen ∧ zs.length = cap ∧ (∀ i, i < zs.length → w.cell? (x.add i) = some (.int k (zs.getD i 0))) ∧ ∀ n ∈ zs, (Lit.int k n).wf = true

theorem nOf (a0 : Int) : ∃ U n : Nat, IntKind.u64.wrap a0 = (U : Int) ∧ 64 + (U : Int) % 1000 = (n : Int) ∧ 64 ≤ n ∧ n ≤ 1063 := by
  obtain ⟨U, hU, _⟩ := wrapNat a0
  exact ⟨U, 64 + U % 1000, hU, by omega, by omega, by omega⟩

set_option maxHeartbeats 1000000 in
theorem core (a0 : Int) (U n : Nat) (a1 : Option Addr) (len1 cap1 : Nat) (a2 : Option Addr) (len2 cap2 : Nat) (w : World) (hU : IntKind.u64.wrap a0 = (U : Int)) (hn : 64 + (U : Int) % 1000 = (n : Int)) (n1 : 64 ≤ n) (n2 : n ≤ 1063)
    (h1 : ∀ i, i < len1 → ∃ x z, a1 = some x ∧ w.cell? (x.add i) = some (.int .i64 z)) (h2 : ∀ i, i < len2 → ∃ x z, a2 = some x ∧ w.cell? (x.add i) = some (.int .u64 z)) :
    Calls Try.prog 4 #[.int .i64 a0, .slice a1 len1 cap1, .slice a2 len2 cap2] w fun e w' => e = .returned (.bool true) ∧ Below w.heap.size w w' := by
  have H1 := hideIt h1
  have H2 := hideIt h2
  clear h1 h2
  have hmk := run_make_row' (P := Try.prog) 36 30 (.int .u64 0) 8 Try.underlying36 Try.info30 rfl .i64 .i64 n (by omega) (by omega)
  go_enter Try.func4, Try.ntmps4
  go_wp2_with fail
  refine (works_any _).mono ?_
  rintro e w1 ⟨rfl, hg1⟩
  go_wp2_with fail
  clear hU hn
  refine (new_yes _ n n1 (by omega)).mono ?_
  rintro e w2 ⟨p, b, rfl, hm2, hg2, hp, hb⟩
  go_wp2_with fail
  clear hmk
  have s0 := hg1.size
  have gp : p < w2.heap.size := (Array.getElem?_eq_some_iff.1 hm2.box).1
  have gb : b < w2.heap.size := hm2.row.lt
  have hm3 := hm2.keep (World.grownBy_alloc w2 (.cells (madeCells #[Value.int .u64 0] n) 30) none) (by simp) (by simp)
  have hr3 := w2.rowIs_made (.int .u64 0) n 30
  have hB3 : Below w.heap.size w (w2.alloc (.cells (madeCells #[Value.int .u64 0] n) 30)) :=
    (((Below.refl w.heap.size w).grown hg1 (Nat.le_refl _) (by simp)).grown hg2 s0 (by simp)).alloc (by have := hg2.size; omega) _
  have hgw : w.heap.size ≤ w2.heap.size := Nat.le_trans s0 hg2.size
  have hbw : w.heap.size ≤ b := Nat.le_trans s0 hb
  have hpw : w.heap.size ≤ p := Nat.le_trans s0 hp
  generalize w2.alloc (.cells (madeCells #[Value.int .u64 0] n) 30) = w3 at hm3 hr3 hB3 ⊢
  generalize w2.heap.size = g at gp gb hr3 hgw ⊢
  clear hm2 hg2 hg1 hp hb s0
  go_loopw [10] (fun i wr => ∃ (k : Nat) (f : Nat → Int), k ≤ 100 ∧ i = .int .i64 k ∧ MemAt wr p b n f ∧ wr.rowIs g 30 n (fun i => .int .u64 (f i)) ∧ Below w.heap.size w wr) (fun i _ => 100 - (intOf i).toNat)
  case atStart => exact ⟨0, fun _ => 0, by omega, rfl, hm3, hr3, hB3⟩
  case round =>
    obtain ⟨k, f, hk, rfl, hm, hr, hB⟩ := hrel
    by_cases c : k < len1 ∧ k < len2 ∧ k < 100
    · obtain ⟨c1, c2, c3⟩ := c
      obtain ⟨x1, z1, rfl, e1⟩ := H1.out k c1
      obtain ⟨x2, z2, rfl, e2⟩ := H2.out k c2
      have e1 := argCell hB e1
      have E2 := hideIt e2
      have e2 := argCell hB e2
      obtain ⟨Z, hZ, _⟩ := wrapNat z1
      obtain ⟨A, hA, hAn⟩ := modNat Z n (by omega)
      go_wp2_with fail
      refine (put_yes _ p b n A z2 f hm hAn).mono ?_
      rintro e w4 ⟨rfl, hm4, hg4⟩
      have hB4 : Below w.heap.size w w4 := gbBelow hB hg4 (Nat.le_refl _) (fun k hk => by simp at hk; omega)
      have e3 := argCell hB4 E2.out
      have hr4 := rowKeep hr hg4 (by simp; omega)
      have hc4 := hr4.cell hAn
      have hf4 := hr4.frozen A
      go_wp2
      go_roundw
      case rel => exact ⟨k + 1, fun i => if i = A then z2 else f i, by omega, by go_num, hm4.keep (gbSetCell _ _ _ _) (by simp; omega) (by simp; omega), rowPut hr4 A z2, hB4.setCell hgw _⟩
      case measure => simp [intOf]; omega
    · have hk0 := hk
      rcases (show ¬ k < len1 ∨ (k < len1 ∧ ¬ k < len2) ∨ (k < len1 ∧ k < len2 ∧ ¬ k < 100) by omega) with c1 | ⟨c1, c2⟩ | ⟨c1, c2, c3⟩
      all_goals
        clear c
        go_wp2_with fail
        refine (read_yes _ p b n 0 n f hm (by omega)).mono ?_
        rintro e w5 ⟨g5, rfl, hr5, hg5, _⟩
        go_wp2_with fail
        refine (same_sl _ _ _ n _ f (Sl.ofRow hr5 (by omega)) (Sl.ofRow (rowKeep hr hg5 (by simp)) (by omega)) (fun i _ => by rw [Nat.zero_add])).mono ?_
        rintro e w6 ⟨rfl, q, rfl⟩
        go_wp2
        go_ret
        exact ⟨rfl, gbBelow (gbBelow hB hg5 (Nat.le_refl _) (by simp)) (gbDrewN _ q none) (Nat.le_refl _) (by simp)⟩

theorem cells {k : IntKind} {w : World} {a : Option Addr} {len cap : Nat} {zs : List Int} (h : IsRow k w a len cap zs) : ∀ i, i < len → ∃ x z, a = some x ∧ w.cell? (x.add i) = some (.int k z) := by
  intro i hi
  rcases h with ⟨_, rfl, _⟩ | ⟨x, rfl, h1, _, h3, h4, _⟩
  · omega
  · exact ⟨x, _, rfl, h4 i (by omega)⟩

/-! ### STEP 1: THE WALK: the Go text returns true, AND WRITES NOTHING THAT WAS THERE: 'Below w.heap.size w w'' (Derived/Below.lean: '.refl', '.alloc', '.drew', '.setCell' at a new block, '.trans'). Open each 'IsRow' by 'rcases' AHEAD of 'go_enter'; part every test ahead of the walk. -/
theorem walk (a0 : Int) (a1 : Option Addr) (len1 cap1 : Nat) (z1 : List Int) (a2 : Option Addr) (len2 cap2 : Nat) (z2 : List Int) (w : World) (w0 : (Lit.int .i64 a0).wf = true) (w1 : IsRow .i64 w a1 len1 cap1 z1) (w2 : IsRow .u64 w a2 len2 cap2 z2) :
    Calls Try.prog 4 #[.int .i64 a0, .slice a1 len1 cap1, .slice a2 len2 cap2] w fun e w' => e = .returned (.bool true) ∧ Below w.heap.size w w' := by
  obtain ⟨U, n, hU, hn, n1, n2⟩ := nOf a0
  exact core a0 U n a1 len1 cap1 a2 len2 cap2 w hU hn n1 n2 (cells w1) (cells w2)

/-! ### THE ROW's STEP: WRITTEN OUT: LEAVE IT -/
set_option maxRecDepth 100000 in
theorem lifted (os : Os) (started : os.Started) (H : Type) (enc : TypeId × Value → H) :
    ReturnsInHanded {} Try.checked os 4 .any (Rows.memKeepsSpec.pre6 enc Try.prog Try.f4 Rows.memKeepsRow.domain false) (Rows.memKeepsSpec.post enc Try.prog Try.f4 false true false false) := by
  refine returnsInHanded_of_change (C := Try.checked) own started (by kernel_rfl) Try.func4
    (ChangeSpec.witness6 (enc := enc) (C := Try.checked) false ⟨#[], #[.int .i64 0, .slice none 0 0, .slice none 0 0], []⟩ 8 (by kernel_rfl) (by kernel_rfl) (by kernel_rfl) (by kernel_rfl)) ?_
  intro W base args ds gs before hval0 hW hcnd _
  have hval : ∀ (j : Nat) t v, Try.f4.params[j]? = some t → args[j]? = some v → Value.okWide Try.prog W .any base t v := hval0
  have hW' := hW
  obtain ⟨p, q, hA0, hV, rfl, hfz, hnd⟩ := hW
  have hA : DataW.TrodAll enc Try.prog W 0 (fun _ => true) true Try.f4.params.toList args.toList ds p := hA0
  rw [Try.params4] at hA hval
  obtain ⟨v0, vs0, d0, ds0, p0, q0, hargs, rfl, rfl, h0, r0⟩ := trodAll_cons hA
  obtain ⟨v1, vs1, d1, ds1, p1, q1, rfl, rfl, rfl, h1, r1⟩ := trodAll_cons r0
  obtain ⟨v2, vs2, d2, ds2, p2, q2, rfl, rfl, rfl, h2, r2⟩ := trodAll_cons r1
  obtain ⟨rfl, rfl, rfl⟩ := trodAll_nil r2
  obtain rfl : args = #[v0, v1, v2] := by cases args; simp_all
  obtain ⟨rfl, rfl⟩ := trodVars_none hV
  obtain ⟨a0, rfl, rfl, rfl, w0⟩ := open_int Try.underlying3 (hval 0 3 v0 rfl rfl) h0
  obtain ⟨a1, len1, cap1, rfl⟩ := okWide_slice Try.underlying46 (hval 1 46 v1 rfl rfl)
  have k1 := h1
  have lt1 : ∀ x ∈ p1, x.block < W.heap.size := by obtain ⟨m, hm⟩ := k1; exact DataW.trod_lt m _ _ _ hm
  obtain ⟨z1, w1⟩ : ∃ zs, IsRow .i64 W a1 len1 cap1 zs := by
    obtain ⟨fuel, hf⟩ := h1
    rcases open_ints Try.underlying46 Try.underlying3 (by kernel_rfl) hf with ⟨hcs, _⟩ | ⟨x, l, c, zs, hcs, _, hl, hm, hz, _, hcell, hwz⟩
    · simp [Value.cells] at hcs
      obtain ⟨rfl, rfl, rfl⟩ := hcs
      exact ⟨[], .inl ⟨rfl, rfl, rfl, rfl⟩⟩
    · simp [Value.cells] at hcs
      obtain ⟨rfl, rfl, rfl⟩ := hcs
      exact ⟨zs, .inr ⟨_, rfl, hl, hm, by simpa using hz, hcell, hwz⟩⟩
  obtain ⟨a2, len2, cap2, rfl⟩ := okWide_slice Try.underlying36 (hval 2 36 v2 rfl rfl)
  have k2 := h2
  have lt2 : ∀ x ∈ p2, x.block < W.heap.size := by obtain ⟨m, hm⟩ := k2; exact DataW.trod_lt m _ _ _ hm
  obtain ⟨z2, w2⟩ : ∃ zs, IsRow .u64 W a2 len2 cap2 zs := by
    obtain ⟨fuel, hf⟩ := h2
    rcases open_ints Try.underlying36 Try.underlying30 (by kernel_rfl) hf with ⟨hcs, _⟩ | ⟨x, l, c, zs, hcs, _, hl, hm, hz, _, hcell, hwz⟩
    · simp [Value.cells] at hcs
      obtain ⟨rfl, rfl, rfl⟩ := hcs
      exact ⟨[], .inl ⟨rfl, rfl, rfl, rfl⟩⟩
    · simp [Value.cells] at hcs
      obtain ⟨rfl, rfl, rfl⟩ := hcs
      exact ⟨zs, .inr ⟨_, rfl, hl, hm, by simpa using hz, hcell, hwz⟩⟩
  clear hA0 hval0
  refine (walk a0 a1 len1 cap1 z1 a2 len2 cap2 z2 W w0 w1 w2).mono fun e W' ⟨he, bel⟩ => ?_
  subst he
  exact ⟨_, rfl, _, _, _, [], _, [], hW', trodAll_mk1 (shut_bool Try.underlying4 _), (trodAll_cons_mk (shut_int Try.underlying3 w0) (trodAll_cons_mk (Below.trod laidOut (by kernel_rfl) (of_decide_eq_true (by kernel_rfl)) k1 bel lt1) (trodAll_cons_mk (Below.trod laidOut (by kernel_rfl) (of_decide_eq_true (by kernel_rfl)) k2 bel lt2) trodAll_mk0))), rfl, bel.frame _, fun h => by cases h⟩

theorem over : Rows.memKeepsRow.holds Try.pinned (OpenSpec.ofChange Rows.memKeepsSpec) :=
  OpenClaim.holds_of_wide 4 Try.f4 rfl rfl rfl rfl rfl rfl rfl ⟨rfl, rfl, rfl, rfl, rfl⟩ rfl rfl rfl rfl rfl (by kernel_rfl) Try.func4 (by kernel_rfl)
    (of_decide_eq_true (by kernel_rfl)) (by unfold Func.isWrapper; first | (rw [if_pos (by decide +kernel)]; kernel_rfl) | (rw [if_neg (by decide +kernel)]; exact ⟨rfl, rfl⟩))
    (fun os started H enc _ => lifted os started H enc)

theorem proved : Rows.MemKeepsSaid := over
end Go.Proofs.Ytllglnomokebcaa.memKeeps
namespace Go.Proofs.Ytllglnomokebcaa
theorem memKeeps_holds : Rows.MemKeepsSaid := memKeeps.proved
#print axioms memKeeps_holds
end Go.Proofs.Ytllglnomokebcaa
