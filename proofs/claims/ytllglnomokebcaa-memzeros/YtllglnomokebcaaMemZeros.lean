/- For every size, every list of words and every place and length, brought into their bounds: in a memory into which the words were put, those that Zero sets to nought are nought and no others are changed, and what was read before stays what it was, as the given function MemZeros asks; no condition. -/
import Derived.Test.YtllglnomokebcaaRows
import Derived.WalkKit
import Derived.ProofKit
import Derived.OpenShut
import Derived.Test.YtllglnomokebcaaWorks
import Derived.ShutString
import Derived.ChangeOld
import Derived.Below
namespace Go.Proofs.Ytllglnomokebcaa.memZeros
open Go.ChangeShapes Go.WideShapes Go.ChangeAt Go.RowKit
open Go.ChangeMaps (open_string shut_string)
set_option linter.unusedVariables false

theorem own : ownKnob Try.prog.godebug = none := by kernel_rfl
theorem laidOut : laidOutB Try.prog = true := by kernel_rfl

/-- WHAT THE WALK IS TOLD OF A SLICE OF INTEGERS THAT CAME IN: it is nil; or it leads to a row of 'cap' cells, the numbers 'zs' (the first 'len' are its elements, the rest its spare room), each fitting its kind. -/
def IsRow (k : IntKind) (w : World) (a : Option Addr) (len cap : Nat) (zs : List Int) : Prop :=
  (a = none ∧ len = 0 ∧ cap = 0 ∧ zs = []) ∨
  ∃ x, a = some x ∧ len ≤ cap ∧ cap ≤ maxLen ∧ zs.length = cap ∧ (∀ i, i < zs.length → w.cell? (x.add i) = some (.int k (zs.getD i 0))) ∧ ∀ n ∈ zs, (Lit.int k n).wf = true

theorem cells {k : IntKind} {w : World} {a : Option Addr} {len cap : Nat} {zs : List Int} (h : IsRow k w a len cap zs) : ∀ i, i < len → ∃ x z, a = some x ∧ w.cell? (x.add i) = some (.int k z) := by
  intro i hi
  rcases h with ⟨_, rfl, _⟩ | ⟨x, rfl, h1, _, h3, h4, _⟩
  · omega
  · exact ⟨x, _, rfl, h4 i (by omega)⟩

theorem nOf (a0 a2 a3 : Int) : ∃ U n V A X k : Nat, IntKind.u64.wrap a0 = (U : Int) ∧ 64 + (U : Int) % 200 = (n : Int) ∧ 64 ≤ n ∧ n ≤ 263 ∧ IntKind.u64.wrap a2 = (V : Int) ∧ (V : Int) % (n : Int) = (A : Int) ∧ A < n ∧ IntKind.u64.wrap a3 = (X : Int) ∧ (X : Int) % (1 + (n : Int) - (A : Int)) = (k : Int) ∧ A + k ≤ n := by
  obtain ⟨U, hU, _⟩ := wrapNat a0
  obtain ⟨V, hV, _⟩ := wrapNat a2
  obtain ⟨X, hX, _⟩ := wrapNat a3
  obtain ⟨A, hA, hA2⟩ := modNat V (64 + U % 200) (by omega)
  obtain ⟨k, hk, hk2⟩ := modNat X (1 + (64 + U % 200) - A) (by omega)
  refine ⟨U, 64 + U % 200, V, A, X, k, hU, by omega, by omega, by omega, hV, hA, hA2, hX, ?_, by omega⟩
  rw [← hk]
  congr 1
  omega

set_option maxHeartbeats 2000000 in
theorem core (a0 a2 a3 : Int) (U n V A X k : Nat) (a1 : Option Addr) (len1 cap1 : Nat) (w : World) (hU : IntKind.u64.wrap a0 = (U : Int)) (hn : 64 + (U : Int) % 200 = (n : Int)) (n1 : 64 ≤ n) (n2 : n ≤ 263)
    (hV : IntKind.u64.wrap a2 = (V : Int)) (hA : (V : Int) % (n : Int) = (A : Int)) (hAn : A < n) (hX : IntKind.u64.wrap a3 = (X : Int)) (hk : (X : Int) % (1 + (n : Int) - (A : Int)) = (k : Int)) (hkn : A + k ≤ n)
    (h1 : ∀ i, i < len1 → ∃ x z, a1 = some x ∧ w.cell? (x.add i) = some (.int .u64 z)) :
    Calls Try.prog 7 #[.int .i64 a0, .slice a1 len1 cap1, .int .i64 a2, .int .i64 a3] w fun e w' => e = .returned (.bool true) ∧ Below w.heap.size w w' := by
  have H1 := hideIt h1
  clear h1
  obtain ⟨i0, hi, hz0, hz1, hz2⟩ := info_parts Try.info30
  have HI := hideIt hi
  have HZ0 := hideIt hz0
  have HZ1 := hideIt hz1
  have HZ2 := hideIt hz2
  clear hi hz0 hz1 hz2
  go_enter Try.func7, Try.ntmps7
  go_wp2_with fail
  refine (works_any _).mono ?_
  rintro e w1 ⟨rfl, hg1⟩
  go_wp2_with fail
  clear hU hn
  refine (new_yes _ n n1 (by omega)).mono ?_
  rintro e w2 ⟨p, b, rfl, hm2, hg2, hp, hb⟩
  go_wp2_with fail
  have s0 := hg1.size
  have hB2 : Below w.heap.size w w2 := ((Below.refl w.heap.size w).grown hg1 (Nat.le_refl _) (by simp)).grown hg2 s0 (by simp)
  have hbw : w.heap.size ≤ b := Nat.le_trans s0 hb
  have hpw : w.heap.size ≤ p := Nat.le_trans s0 hp
  clear hg2 hg1 hp hb s0
  go_loopw [11] (fun i wr => ∃ (k : Nat) (f : Nat → Int), k ≤ n ∧ i = .int .i64 k ∧ MemAt wr p b n f ∧ Below w.heap.size w wr) (fun i _ => n - (intOf i).toNat)
  case atStart => exact ⟨0, fun _ => 0, by omega, rfl, hm2, hB2⟩
  case round =>
    obtain ⟨j, f, hj, rfl, hm, hB⟩ := hrel
    by_cases c : j < len1 ∧ j < n
    · obtain ⟨c1, c2⟩ := c
      obtain ⟨x1, z1, rfl, e1⟩ := H1.out j c1
      have e1 := argCell hB e1
      go_wp2_with fail
      refine (put_yes _ p b n j z1 f hm c2).mono ?_
      rintro e w4 ⟨rfl, hm4, hg4⟩
      have hB4 : Below w.heap.size w w4 := gbBelow hB hg4 (Nat.le_refl _) (fun k hk => by simp at hk; omega)
      go_wp2
      go_roundw
      case rel => exact ⟨j + 1, fun i => if i = j then z1 else f i, by omega, by go_num, hm4, hB4⟩
      case measure => simp [intOf]; omega
    · rcases (show ¬ j < len1 ∨ (j < len1 ∧ ¬ j < n) by omega) with c1 | ⟨c1, c2⟩
      all_goals
        clear c
        go_wp2_with fail
        refine (read_yes _ p b n 0 n f hm (by omega)).mono ?_
        rintro e w5 ⟨g5, rfl, hr5, hg5, hw5⟩
        have hs5 : Hid (∀ j, j < n → (w5.alloc (.cells #[] 30)).cell? ((⟨g5, 0, none⟩ : Addr).add j) = some (.int .u64 (f j))) := hideIt (fun j hj => by rw [Addr.add_lit, Nat.zero_add, (hr5.alloc _).cell hj, Nat.zero_add])
        go_wp2_with (at_builtin; refine wpList_append_fn rfl (.tmp 55) (.tmp 56) 36 rfl i0 Try.underlying36 HI.out HZ0.out HZ1.out HZ2.out w5.heap.size w5.heap.size 0 0 _ rfl (Owns.none w5) ⟨g5, 0, none⟩ n n (fun j => .int .u64 (f j)) rfl hs5.out (fun _ => rfl) (by omega) (by simp) ?_; intro g6 cap6 w6 ho6 hg6)
        clear hV hA hX hk
        have ho6 : Owns w6 w5.heap.size g6 n cap6 (fun i => .int .u64 (f i)) := by rw [Nat.zero_add] at ho6; exact ho6.congr (fun i _ => by rw [if_neg (by omega), Nat.sub_zero])
        have hg6' : w5.grownBy w6 none := gbNew (gbTrans (World.grownBy_alloc w5 _ _) hg6) (Nat.le_refl _)
        have hb5 : b < wr.heap.size := hm.row.lt
        have hs56 := hg5.size
        have hb6 := ho6.lt
        have hm6 := hm.keep (gbTrans hg5 hg6') (by simp) (by simp)
        refine (zero_yes _ p b n A k f hm6 hkn).mono ?_
        rintro e w7 ⟨rfl, hm7, hg7⟩
        have ho7 := ho6.keep hg7 (by simp; omega)
        have hr7 := rowKeep (rowKeep hr5 hg6' (by simp)) hg7 (by simp; omega)
        go_wp2_with fail
        refine (same_sl _ _ _ n _ f (Sl.ofRow hr7 (by omega)) (Sl.ofOwns ho7 (by omega)) (fun i _ => by rw [Nat.zero_add])).mono ?_
        rintro e w8 ⟨rfl, q, rfl⟩
        go_wp2_with fail
        refine (read_yes _ p b n 0 n _ (hm7.drewN q) (by omega)).mono ?_
        rintro e w9 ⟨g9, rfl, hr9, hg9, hw9⟩
        have ho9 := (ho7.keep (gbDrewN w7 q none) (by simp)).keep hg9 (by simp)
        have hB9 : Below w.heap.size w w9 := gbBelow (gbBelow (gbBelow (gbBelow hB (gbTrans hg5 hg6') (Nat.le_refl _) (by simp)) hg7 (Nat.le_refl _) (fun k hk => by simp at hk; omega)) (gbDrewN _ q none) (Nat.le_refl _) (by simp)) hg9 (Nat.le_refl _) (by simp)
        clear hr7 ho7 hm7 hg7 hm6 hg6' ho6 hr5 hg5 hs5 hB hm hB2 hm2
        go_wp2_with fail
        go_loopw [17] (fun i wr => ∃ j q : Nat, j ≤ n ∧ i = .int .i64 j ∧ wr = w9.drewN q) (fun i _ => n - (intOf i).toNat)
        case atStart => exact ⟨0, 0, by omega, rfl, rfl⟩
        case round =>
          obtain ⟨j, q2, hj, rfl, rfl⟩ := hrel
          by_cases hlt : j < n
          · have e1 := hr9.cell hlt
            have e2 := ho9.cell hlt
            rw [Nat.zero_add] at e1
            rcases (show j < A ∨ (A ≤ j ∧ j < A + k) ∨ (A ≤ j ∧ ¬ j < A + k) by omega) with c | ⟨c, c'⟩ | ⟨c, c'⟩
            · rw [if_neg (by omega)] at e1
              go_wp2
              go_quiet (fail)
              go_wp2
              go_roundw
              case rel => exact ⟨j + 1, _, by omega, by go_num, rfl⟩
              case measure => simp [intOf]; omega
            · rw [if_pos ⟨c, c'⟩] at e1
              have hd : decide ((j : Int) < (A : Int) + (k : Int)) = true := decide_eq_true (by omega)
              go_wp2
              go_quiet (fail)
              go_wp2
              go_roundw
              case rel => exact ⟨j + 1, _, by omega, by go_num, rfl⟩
              case measure => simp [intOf]; omega
            · rw [if_neg (by omega)] at e1
              have hd : decide ((j : Int) < (A : Int) + (k : Int)) = false := decide_eq_false (by omega)
              go_wp2
              go_quiet (fail)
              go_wp2
              go_roundw
              case rel => exact ⟨j + 1, _, by omega, by go_num, rfl⟩
              case measure => simp [intOf]; omega
          · go_wp2
            go_ret
            exact ⟨rfl, gbBelow hB9 (gbDrewN _ q2 none) (Nat.le_refl _) (by simp)⟩

/-! ### STEP 1: THE WALK: the Go text returns true, AND WRITES NOTHING THAT WAS THERE: 'Below w.heap.size w w'' (Derived/Below.lean: '.refl', '.alloc', '.drew', '.setCell' at a new block, '.trans'). Open each 'IsRow' by 'rcases' AHEAD of 'go_enter'; part every test ahead of the walk. -/
theorem walk (a0 : Int) (a1 : Option Addr) (len1 cap1 : Nat) (z1 : List Int) (a2 : Int) (a3 : Int) (w : World) (w0 : (Lit.int .i64 a0).wf = true) (w1 : IsRow .u64 w a1 len1 cap1 z1) (w2 : (Lit.int .i64 a2).wf = true) (w3 : (Lit.int .i64 a3).wf = true) :
    Calls Try.prog 7 #[.int .i64 a0, .slice a1 len1 cap1, .int .i64 a2, .int .i64 a3] w fun e w' => e = .returned (.bool true) ∧ Below w.heap.size w w' := by
  obtain ⟨U, n, V, A, X, k, hU, hn, n1, n2, hV, hA, hAn, hX, hk, hkn⟩ := nOf a0 a2 a3
  exact core a0 a2 a3 U n V A X k a1 len1 cap1 w hU hn n1 n2 hV hA hAn hX hk hkn (cells w1)

/-! ### THE ROW's STEP: WRITTEN OUT: LEAVE IT -/
set_option maxRecDepth 100000 in
theorem lifted (os : Os) (started : os.Started) (H : Type) (enc : TypeId × Value → H) :
    ReturnsInHanded {} Try.checked os 7 .any (Rows.memZerosSpec.pre6 enc Try.prog Try.f7 Rows.memZerosRow.domain false) (Rows.memZerosSpec.post enc Try.prog Try.f7 false true false false) := by
  refine returnsInHanded_of_change (C := Try.checked) own started (by kernel_rfl) Try.func7
    (ChangeSpec.witness6 (enc := enc) (C := Try.checked) false ⟨#[], #[.int .i64 0, .slice none 0 0, .int .i64 0, .int .i64 0], []⟩ 8 (by kernel_rfl) (by kernel_rfl) (by kernel_rfl) (by kernel_rfl)) ?_
  intro W base args ds gs before hval0 hW hcnd _
  have hval : ∀ (j : Nat) t v, Try.f7.params[j]? = some t → args[j]? = some v → Value.okWide Try.prog W .any base t v := hval0
  have hW' := hW
  obtain ⟨p, q, hA0, hV, rfl, hfz, hnd⟩ := hW
  have hA : DataW.TrodAll enc Try.prog W 0 (fun _ => true) true Try.f7.params.toList args.toList ds p := hA0
  rw [Try.params7] at hA hval
  obtain ⟨v0, vs0, d0, ds0, p0, q0, hargs, rfl, rfl, h0, r0⟩ := trodAll_cons hA
  obtain ⟨v1, vs1, d1, ds1, p1, q1, rfl, rfl, rfl, h1, r1⟩ := trodAll_cons r0
  obtain ⟨v2, vs2, d2, ds2, p2, q2, rfl, rfl, rfl, h2, r2⟩ := trodAll_cons r1
  obtain ⟨v3, vs3, d3, ds3, p3, q3, rfl, rfl, rfl, h3, r3⟩ := trodAll_cons r2
  obtain ⟨rfl, rfl, rfl⟩ := trodAll_nil r3
  obtain rfl : args = #[v0, v1, v2, v3] := by cases args; simp_all
  obtain ⟨rfl, rfl⟩ := trodVars_none hV
  obtain ⟨a0, rfl, rfl, rfl, w0⟩ := open_int Try.underlying3 (hval 0 3 v0 rfl rfl) h0
  obtain ⟨a1, len1, cap1, rfl⟩ := okWide_slice Try.underlying36 (hval 1 36 v1 rfl rfl)
  have k1 := h1
  have lt1 : ∀ x ∈ p1, x.block < W.heap.size := by obtain ⟨m, hm⟩ := k1; exact DataW.trod_lt m _ _ _ hm
  obtain ⟨z1, w1⟩ : ∃ zs, IsRow .u64 W a1 len1 cap1 zs := by
    obtain ⟨fuel, hf⟩ := h1
    rcases open_ints Try.underlying36 Try.underlying30 (by kernel_rfl) hf with ⟨hcs, _⟩ | ⟨x, l, c, zs, hcs, _, hl, hm, hz, _, hcell, hwz⟩
    · simp [Value.cells] at hcs
      obtain ⟨rfl, rfl, rfl⟩ := hcs
      exact ⟨[], .inl ⟨rfl, rfl, rfl, rfl⟩⟩
    · simp [Value.cells] at hcs
      obtain ⟨rfl, rfl, rfl⟩ := hcs
      exact ⟨zs, .inr ⟨_, rfl, hl, hm, by simpa using hz, hcell, hwz⟩⟩
  obtain ⟨a2, rfl, rfl, rfl, w2⟩ := open_int Try.underlying3 (hval 2 3 v2 rfl rfl) h2
  obtain ⟨a3, rfl, rfl, rfl, w3⟩ := open_int Try.underlying3 (hval 3 3 v3 rfl rfl) h3
  clear hA0 hval0
  refine (walk a0 a1 len1 cap1 z1 a2 a3 W w0 w1 w2 w3).mono fun e W' ⟨he, bel⟩ => ?_
  subst he
  exact ⟨_, rfl, _, _, _, [], _, [], hW', trodAll_mk1 (shut_bool Try.underlying4 _), (trodAll_cons_mk (shut_int Try.underlying3 w0) (trodAll_cons_mk (Below.trod laidOut (by kernel_rfl) (of_decide_eq_true (by kernel_rfl)) k1 bel lt1) (trodAll_cons_mk (shut_int Try.underlying3 w2) (trodAll_cons_mk (shut_int Try.underlying3 w3) trodAll_mk0)))), rfl, bel.frame _, fun h => by cases h⟩

theorem over : Rows.memZerosRow.holds Try.pinned (OpenSpec.ofChange Rows.memZerosSpec) :=
  OpenClaim.holds_of_wide 7 Try.f7 rfl rfl rfl rfl rfl rfl rfl ⟨rfl, rfl, rfl, rfl, rfl⟩ rfl rfl rfl rfl rfl (by kernel_rfl) Try.func7 (by kernel_rfl)
    (of_decide_eq_true (by kernel_rfl)) (by unfold Func.isWrapper; first | (rw [if_pos (by decide +kernel)]; kernel_rfl) | (rw [if_neg (by decide +kernel)]; exact ⟨rfl, rfl⟩))
    (fun os started H enc _ => lifted os started H enc)

theorem proved : Rows.MemZerosSaid := over
end Go.Proofs.Ytllglnomokebcaa.memZeros
namespace Go.Proofs.Ytllglnomokebcaa
theorem memZeros_holds : Rows.MemZerosSaid := memZeros.proved
#print axioms memZeros_holds
end Go.Proofs.Ytllglnomokebcaa
