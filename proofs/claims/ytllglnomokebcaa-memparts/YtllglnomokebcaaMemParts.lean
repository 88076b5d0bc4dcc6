/- For every size, every list of words and every place, brought into its bounds: the words of a memory into which they were put, read in two parts at that place and laid behind one another, are the same as read in one, as the given function MemParts asks; no condition. -/
import Derived.Test.YtllglnomokebcaaRows
import Derived.WalkKit
import Derived.ProofKit
import Derived.OpenShut
import Derived.Test.YtllglnomokebcaaWorks
import Derived.ShutString
import Derived.ChangeOld
import Derived.Below
namespace Go.Proofs.Ytllglnomokebcaa.memParts
open Go.ChangeShapes Go.WideShapes Go.ChangeAt Go.RowKit
open Go.ChangeMaps (open_string shut_string)
set_option linter.unusedVariables false

theorem own : ownKnob Try.prog.godebug = none := by kernel_rfl
theorem laidOut : laidOutB Try.prog = true := by kernel_rfl

/-- WHAT THE WALK IS TOLD OF A SLICE OF INTEGERS THAT CAME IN: it is nil; or it leads to a row of 'cap' cells, the numbers 'zs' (the first 'len' are its elements, the rest its spare room), each fitting its kind. -/
def IsRow (k : IntKind) (w : World) (a : Option Addr) (len cap : Nat) (zs : List Int) : Prop :=
  (a = none ∧ len = 0 ∧ cap = 0 ∧ zs = []) ∨
  ∃ x, a = some x ∧ len ≤ cap ∧ cap ≤ maxLen ∧ zs.length = cap ∧ (∀ i, i < zs.length → w.cell? (x.add i) = some (.int k (zs.getD i 0))) ∧ ∀ n ∈ zs, (Lit.int k n).wf = true

theorem cells {k : IntKind} {w : World} {a : Option Addr} {len cap : Nat} {zs : List Int} (h : IsRow k w a len cap zs) : ∀ i, i < len → ∃ x z, a = some x ∧ w.cell? (x.add i) = some (.int k z) := by
  intro i hi
  rcases h with ⟨_, rfl, _⟩ | ⟨x, rfl, h1, _, h3, h4, _⟩
  · omega
  · exact ⟨x, _, rfl, h4 i (by omega)⟩

theorem nOf (a0 a2 : Int) : ∃ U n V k : Nat, IntKind.u64.wrap a0 = (U : Int) ∧ 64 + (U : Int) % 200 = (n : Int) ∧ 64 ≤ n ∧ n ≤ 263 ∧ IntKind.u64.wrap a2 = (V : Int) ∧ (V : Int) % ((n : Int) + 1) = (k : Int) ∧ k ≤ n := by
  obtain ⟨U, hU, _⟩ := wrapNat a0
  obtain ⟨V, hV, _⟩ := wrapNat a2
  obtain ⟨k, hk, hk2⟩ := modNat V (64 + U % 200 + 1) (by omega)
  refine ⟨U, 64 + U % 200, V, k, hU, by omega, by omega, by omega, hV, ?_, by omega⟩
  rw [← hk]
  congr 1

set_option maxHeartbeats 2000000 in
theorem core (a0 a2 : Int) (U n V k : Nat) (a1 : Option Addr) (len1 cap1 : Nat) (w : World) (hU : IntKind.u64.wrap a0 = (U : Int)) (hn : 64 + (U : Int) % 200 = (n : Int)) (n1 : 64 ≤ n) (n2 : n ≤ 263)
    (hV : IntKind.u64.wrap a2 = (V : Int)) (hk : (V : Int) % ((n : Int) + 1) = (k : Int)) (hkn : k ≤ n)
    (h1 : ∀ i, i < len1 → ∃ x z, a1 = some x ∧ w.cell? (x.add i) = some (.int .u64 z)) :
    Calls Try.prog 6 #[.int .i64 a0, .slice a1 len1 cap1, .int .i64 a2] w fun e w' => e = .returned (.bool true) ∧ Below w.heap.size w w' := by
  have H1 := hideIt h1
  clear h1
  obtain ⟨i0, hi, hz0, hz1, hz2⟩ := info_parts Try.info30
  have HI := hideIt hi
  have HZ0 := hideIt hz0
  have HZ1 := hideIt hz1
  have HZ2 := hideIt hz2
  clear hi hz0 hz1 hz2
  go_enter Try.func6, Try.ntmps6
  go_wp2_with fail
  refine (works_any _).mono ?_
  rintro e w1 ⟨rfl, hg1⟩
  go_wp2_with fail
  clear hU hn
  refine (new_yes _ n n1 (by omega)).mono ?_
  rintro e w2 ⟨p, b, rfl, hm2, hg2, hp, hb⟩
  go_wp2_with fail
  have s0 := hg1.size
  have hB2 : Below w.heap.size w w2 := ((Below.refl w.heap.size w).grown hg1 (Nat.le_refl _) (by simp)).grown hg2 s0 (by simp)
  have hbw : w.heap.size ≤ b := Nat.le_trans s0 hb
  have hpw : w.heap.size ≤ p := Nat.le_trans s0 hp
  clear hg2 hg1 hp hb s0
  go_loopw [9] (fun i wr => ∃ (k : Nat) (f : Nat → Int), k ≤ n ∧ i = .int .i64 k ∧ MemAt wr p b n f ∧ Below w.heap.size w wr) (fun i _ => n - (intOf i).toNat)
  case atStart => exact ⟨0, fun _ => 0, by omega, rfl, hm2, hB2⟩
  case round =>
    obtain ⟨j, f, hj, rfl, hm, hB⟩ := hrel
    by_cases c : j < len1 ∧ j < n
    · obtain ⟨c1, c2⟩ := c
      obtain ⟨x1, z1, rfl, e1⟩ := H1.out j c1
      have e1 := argCell hB e1
      go_wp2_with fail
      refine (put_yes _ p b n j z1 f hm c2).mono ?_
      rintro e w4 ⟨rfl, hm4, hg4⟩
      have hB4 : Below w.heap.size w w4 := gbBelow hB hg4 (Nat.le_refl _) (fun k hk => by simp at hk; omega)
      go_wp2
      go_roundw
      case rel => exact ⟨j + 1, fun i => if i = j then z1 else f i, by omega, by go_num, hm4, hB4⟩
      case measure => simp [intOf]; omega
    · rcases (show ¬ j < len1 ∨ (j < len1 ∧ ¬ j < n) by omega) with c1 | ⟨c1, c2⟩
      all_goals
        clear c
        go_wp2_with fail
        refine (read_yes _ p b n 0 n f hm (by omega)).mono ?_
        rintro e w5 ⟨g5, rfl, hr5, hg5, hw5⟩
        have hm5 := hm.keep hg5 (by simp) (by simp)
        go_wp2_with fail
        refine (read_yes _ p b n 0 k f hm5 (by omega)).mono ?_
        rintro e w6 ⟨g6, rfl, hr6, hg6, hw6⟩
        have hm6 := hm5.keep hg6 (by simp) (by simp)
        have E2 : (n : Int) - (k : Int) = ((n - k : Nat) : Int) := by omega
        go_wp2_with fail
        refine (read_yes _ p b n k (n - k) f hm6 (by omega)).mono ?_
        rintro e w7 ⟨g7, rfl, hr7, hg7, hw7⟩
        clear E2
        have hr6' := rowKeep hr6 hg7 (by simp)
        have hs7 : Hid (∀ j, j < k → (w7.alloc (.cells #[] 30)).cell? ((⟨g6, 0, none⟩ : Addr).add j) = some (.int .u64 (f j))) := hideIt (fun j hj => by rw [Addr.add_lit, Nat.zero_add, (hr6'.alloc _).cell hj, Nat.zero_add])
        have hk0 : 0 + k ≤ 1000000 := by omega
        have hk1 : k + (n - k) ≤ 1000000 := by omega
        go_wp2_with (first
          | (at_builtin; refine wpList_append_fn rfl (.tmp 87) (.tmp 88) 36 rfl i0 Try.underlying36 HI.out HZ0.out HZ1.out HZ2.out w7.heap.size w7.heap.size 0 0 _ rfl (Owns.none w7) ⟨g6, 0, none⟩ k k (fun j => .int .u64 (f j)) rfl hs7.out (fun _ => rfl) hk0 (by simp) ?_; intro g8 cap8 w8 ho8 hg8; rw [Nat.zero_add] at ho8; have ho8 : Hid (Owns w8 w7.heap.size g8 k cap8 (fun i => .int .u64 (f i))) := hideIt (ho8.congr (fun i _ => by rw [if_neg (by omega), Nat.sub_zero])); have hr8 : Hid (∀ j, j < n - k → w8.cell? ((⟨g7, 0, none⟩ : Addr).add j) = some (.int .u64 (f (k + j)))) := hideIt (fun j hj => by rw [Addr.add_lit, Nat.zero_add]; exact (rowKeep (hr7.alloc _) hg8 (by have := hr7.lt; simp; omega)).cell hj))
          | (at_builtin; refine wpList_append_fn rfl (.tmp 89) (.tmp 90) 36 rfl i0 Try.underlying36 HI.out HZ0.out HZ1.out HZ2.out w7.heap.size g8 k cap8 _ rfl ho8.out ⟨g7, 0, none⟩ (n - k) (n - k) (fun j => .int .u64 (f (k + j))) rfl hr8.out (fun _ => rfl) hk1 (by have := ho8.out.lt; omega) ?_; intro g9 cap9 w9 ho9 hg9))
        have ho9 : Owns w9 w7.heap.size g9 n cap9 (fun i => .int .u64 (f i)) := by
          rw [show k + (n - k) = n by omega] at ho9
          exact ho9.congr (fun i _ => by
            by_cases h : i < k
            · rw [if_pos h]
            · rw [if_neg h, show k + (i - k) = i by omega])
        have h8 : w7.grownBy w8 none := gbNew (gbTrans (World.grownBy_alloc w7 _ _) hg8) (Nat.le_refl _)
        have l8 := ho8.out.lt
        have h9 : w7.grownBy w9 none := gbNew (gbTrans (gbAny h8 _) hg9) l8.1
        have hr9 := rowKeep (rowKeep (rowKeep hr5 hg6 (by simp)) hg7 (by simp)) h9 (by simp)
        refine (same_sl _ _ _ n _ f (Sl.ofRow hr9 (by omega)) (Sl.ofOwns ho9 (by omega)) (fun i _ => by rw [Nat.zero_add])).mono ?_
        rintro e w10 ⟨rfl, q, rfl⟩
        go_wp2
        go_ret
        exact ⟨rfl, gbBelow (gbBelow hB (gbTrans (gbTrans (gbTrans hg5 hg6) hg7) h9) (Nat.le_refl _) (by simp)) (gbDrewN _ q none) (Nat.le_refl _) (by simp)⟩

/-! ### STEP 1: THE WALK: the Go text returns true, AND WRITES NOTHING THAT WAS THERE: 'Below w.heap.size w w'' (Derived/Below.lean: '.refl', '.alloc', '.drew', '.setCell' at a new block, '.trans'). Open each 'IsRow' by 'rcases' AHEAD of 'go_enter'; part every test ahead of the walk. -/
theorem walk (a0 : Int) (a1 : Option Addr) (len1 cap1 : Nat) (z1 : List Int) (a2 : Int) (w : World) (w0 : (Lit.int .i64 a0).wf = true) (w1 : IsRow .u64 w a1 len1 cap1 z1) (w2 : (Lit.int .i64 a2).wf = true) :
    Calls Try.prog 6 #[.int .i64 a0, .slice a1 len1 cap1, .int .i64 a2] w fun e w' => e = .returned (.bool true) ∧ Below w.heap.size w w' := by
  obtain ⟨U, n, V, k, hU, hn, n1, n2, hV, hk, hkn⟩ := nOf a0 a2
  exact core a0 a2 U n V k a1 len1 cap1 w hU hn n1 n2 hV hk hkn (cells w1)

/-! ### THE ROW's STEP: WRITTEN OUT: LEAVE IT -/
set_option maxRecDepth 100000 in
theorem lifted (os : Os) (started : os.Started) (H : Type) (enc : TypeId × Value → H) :
    ReturnsInHanded {} Try.checked os 6 .any (Rows.memPartsSpec.pre6 enc Try.prog Try.f6 Rows.memPartsRow.domain false) (Rows.memPartsSpec.post enc Try.prog Try.f6 false true false false) := by
  refine returnsInHanded_of_change (C := Try.checked) own started (by kernel_rfl) Try.func6
    (ChangeSpec.witness6 (enc := enc) (C := Try.checked) false ⟨#[], #[.int .i64 0, .slice none 0 0, .int .i64 0], []⟩ 8 (by kernel_rfl) (by kernel_rfl) (by kernel_rfl) (by kernel_rfl)) ?_
  intro W base args ds gs before hval0 hW hcnd _
  have hval : ∀ (j : Nat) t v, Try.f6.params[j]? = some t → args[j]? = some v → Value.okWide Try.prog W .any base t v := hval0
  have hW' := hW
  obtain ⟨p, q, hA0, hV, rfl, hfz, hnd⟩ := hW
  have hA : DataW.TrodAll enc Try.prog W 0 (fun _ => true) true Try.f6.params.toList args.toList ds p := hA0
  rw [Try.params6] at hA hval
  obtain ⟨v0, vs0, d0, ds0, p0, q0, hargs, rfl, rfl, h0, r0⟩ := trodAll_cons hA
  obtain ⟨v1, vs1, d1, ds1, p1, q1, rfl, rfl, rfl, h1, r1⟩ := trodAll_cons r0
  obtain ⟨v2, vs2, d2, ds2, p2, q2, rfl, rfl, rfl, h2, r2⟩ := trodAll_cons r1
  obtain ⟨rfl, rfl, rfl⟩ := trodAll_nil r2
  obtain rfl : args = #[v0, v1, v2] := by cases args; simp_all
  obtain ⟨rfl, rfl⟩ := trodVars_none hV
  obtain ⟨a0, rfl, rfl, rfl, w0⟩ := open_int Try.underlying3 (hval 0 3 v0 rfl rfl) h0
  obtain ⟨a1, len1, cap1, rfl⟩ := okWide_slice Try.underlying36 (hval 1 36 v1 rfl rfl)
  have k1 := h1
  have lt1 : ∀ x ∈ p1, x.block < W.heap.size := by obtain ⟨m, hm⟩ := k1; exact DataW.trod_lt m _ _ _ hm
  obtain ⟨z1, w1⟩ : ∃ zs, IsRow .u64 W a1 len1 cap1 zs := by
    obtain ⟨fuel, hf⟩ := h1
    rcases open_ints Try.underlying36 Try.underlying30 (by kernel_rfl) hf with ⟨hcs, _⟩ | ⟨x, l, c, zs, hcs, _, hl, hm, hz, _, hcell, hwz⟩
    · simp [Value.cells] at hcs
      obtain ⟨rfl, rfl, rfl⟩ := hcs
      exact ⟨[], .inl ⟨rfl, rfl, rfl, rfl⟩⟩
    · simp [Value.cells] at hcs
      obtain ⟨rfl, rfl, rfl⟩ := hcs
      exact ⟨zs, .inr ⟨_, rfl, hl, hm, by simpa using hz, hcell, hwz⟩⟩
  obtain ⟨a2, rfl, rfl, rfl, w2⟩ := open_int Try.underlying3 (hval 2 3 v2 rfl rfl) h2
  clear hA0 hval0
  refine (walk a0 a1 len1 cap1 z1 a2 W w0 w1 w2).mono fun e W' ⟨he, bel⟩ => ?_
  subst he
  exact ⟨_, rfl, _, _, _, [], _, [], hW', trodAll_mk1 (shut_bool Try.underlying4 _), (trodAll_cons_mk (shut_int Try.underlying3 w0) (trodAll_cons_mk (Below.trod laidOut (by kernel_rfl) (of_decide_eq_true (by kernel_rfl)) k1 bel lt1) (trodAll_cons_mk (shut_int Try.underlying3 w2) trodAll_mk0))), rfl, bel.frame _, fun h => by cases h⟩

theorem over : Rows.memPartsRow.holds Try.pinned (OpenSpec.ofChange Rows.memPartsSpec) :=
  OpenClaim.holds_of_wide 6 Try.f6 rfl rfl rfl rfl rfl rfl rfl ⟨rfl, rfl, rfl, rfl, rfl⟩ rfl rfl rfl rfl rfl (by kernel_rfl) Try.func6 (by kernel_rfl)
    (of_decide_eq_true (by kernel_rfl)) (by unfold Func.isWrapper; first | (rw [if_pos (by decide +kernel)]; kernel_rfl) | (rw [if_neg (by decide +kernel)]; exact ⟨rfl, rfl⟩))
    (fun os started H enc _ => lifted os started H enc)

theorem proved : Rows.MemPartsSaid := over
end Go.Proofs.Ytllglnomokebcaa.memParts
namespace Go.Proofs.Ytllglnomokebcaa
theorem memParts_holds : Rows.MemPartsSaid := memParts.proved
#print axioms memParts_holds
end Go.Proofs.Ytllglnomokebcaa
