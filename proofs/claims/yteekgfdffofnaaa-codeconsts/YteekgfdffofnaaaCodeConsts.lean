/- ANY WORD IS MADE BY Const AND More, TWELVE BITS AT A TIME: of any word, in any register (no condition). -/
import Derived.Test.YteekgfdffofnaaaLst
import Derived.Deep.Cut
import Derived.ProofKit
import Derived.OpenShut
import Derived.ShutString
import Derived.ChangeOld
import Derived.Below
import Derived.Deep.Slices
namespace Go.Proofs.Yteekgfdffofnaaa.codeConsts
open Go.ChangeShapes Go.WideShapes Go.ChangeAt Go.RowKit
set_option linter.unusedVariables false

theorem own : ownKnob Try.prog.godebug = none := by kernel_rfl
theorem laidOut : laidOutB Try.prog = true := by kernel_rfl

theorem modN (a : Int) (m : Nat) (hm : 0 < m) : ∃ U N : Nat, IntKind.u64.wrap a = (U : Int) ∧ (U : Int) % (m : Int) = (N : Int) ∧ N < m := by
  refine ⟨(IntKind.u64.wrap a).toNat, (IntKind.u64.wrap a).toNat % m, ?_, ?_, Nat.mod_lt _ hm⟩
  · rw [IntKind.wrap_u64]; omega
  · rw [Int.natCast_emod]
theorem tr {i : I} {f g : Nat → Int} {p : Int} {e : E} {q : Int} (hf : ∀ j, 0 ≤ f j) (h : M.run i f p = (e, 0)) (h1 : e.k = 0) (h2 : e.f = g) (h3 : e.p = q) :
    ∃ e : E, (∀ w, Calls Try.prog 15 #[iv i, .agg (rc f), .int .i64 p] w fun r w' => r = .returned (.tuple #[.agg (ec e), .int .i64 0]) ∧ w.grownBy w' none) ∧ e.k = 0 ∧ e.f = g ∧ e.p = q :=
  ⟨e, run_is i f p e 0 hf h, h1, h2, h3⟩
/-- What stands in the register when k steps are done: the word's upper bits. -/
def vk (W k : Nat) : Nat := W / 4096 ^ (6 - k)
/-- The step k's twelve bits, and its instruction. -/
def mk (W k : Nat) : Nat := vk W (k + 1) % 4096
def ck (W N k : Nat) : I := ⟨if k = 0 then 1 else 17, N, 0, (mk W k : Int)⟩
theorem vk_step (W k : Nat) (hk : k < 6) : vk W k = vk W (k + 1) / 4096 := by
  unfold vk
  rw [show 6 - k = (6 - (k + 1)) + 1 by omega, Nat.pow_succ, Nat.div_div_eq_div_mul]
theorem vk_le (W k : Nat) : vk W k ≤ W := Nat.div_le_self _ _
def g8 : Nat → Int := fun i => [1, 2, 3, 4, 5, 6, 7, 8].getD i 0
theorem g8_pos : ∀ j, 0 ≤ g8 j := fun j => by
  unfold g8
  match j with
  | 0 | 1 | 2 | 3 | 4 | 5 | 6 | 7 => exact (by decide)
  | j + 8 => exact (by simp)
def Fc (W N k : Nat) : Nat → Int := if k = 0 then g8 else upd g8 N (vk W k)
theorem upd_upd (f : Nat → Int) (i : Nat) (u v : Int) : upd (upd f i u) i v = upd f i v := by
  funext j
  unfold upd
  split <;> rfl
theorem upd_at (f : Nat → Int) (i : Nat) (v : Int) : upd f i v i = v := by unfold upd; rw [if_pos rfl]
theorem run_at {o a b m p : Nat} (f : Nat → Int) (ho : o < 18) (ha : a < 8) (hb : b < 8) (hm : m < 4096) (hp : p < 4096) : M.run ⟨o, a, b, m⟩ f p = (M.ex ⟨o, a, b, m⟩ f p, 0) := by
  unfold M.run
  rw [if_pos (M.rt_yes ho ha hb hm), if_pos (M.bel_iff.2 (by omega))]
theorem const_step (W N k : Nat) (hW : W < 18446744073709551616) (hN : N < 8) (hk : k < 6) :
    ∃ e : E, (∀ w, Calls Try.prog 15 #[iv (ck W N k), .agg (rc (Fc W N k)), .int .i64 (k : Int)] w fun r w' => r = .returned (.tuple #[.agg (ec e), .int .i64 0]) ∧ w.grownBy w' none) ∧ e.k = 0 ∧ e.f = Fc W N (k + 1) ∧ e.p = ((k + 1 : Nat) : Int) := by
  have hm : mk W k < 4096 := Nat.mod_lt _ (by decide)
  have hv := vk_le W (k + 1)
  have hp : ((k : Int) + 1) % 4096 = ((k + 1 : Nat) : Int) := by omega
  have hF : Fc W N (k + 1) = upd g8 N (vk W (k + 1)) := by unfold Fc; rw [if_neg (by omega)]
  rw [hF]
  by_cases c : k = 0
  · subst c
    have e0 : ck W N 0 = ⟨((1 : Nat) : Int), N, ((0 : Nat) : Int), (mk W 0 : Int)⟩ := rfl
    rw [e0]
    refine tr (f := Fc W N 0) g8_pos (run_at _ (by decide) hN (by decide) hm (by decide)) rfl ?_ hp
    have e : mk W 0 = vk W 1 := by
      unfold mk vk
      exact Nat.mod_eq_of_lt (Nat.div_lt_of_lt_mul (by omega))
    show upd g8 N (mk W 0 : Int) = _
    rw [e]
  · have e0 : ck W N k = ⟨((17 : Nat) : Int), N, ((0 : Nat) : Int), (mk W k : Int)⟩ := by unfold ck; rw [if_neg c]; rfl
    have f0 : Fc W N k = upd g8 N (vk W k) := by unfold Fc; rw [if_neg c]
    rw [e0, f0]
    refine tr (upd_pos g8_pos (Int.natCast_nonneg _)) (run_at _ (by decide) hN (by decide) hm (by omega)) rfl ?_ hp
    show upd (upd g8 N (vk W k)) N (IntKind.u64.wrap (IntKind.u64.wrap (upd g8 N (vk W k) N * 4096) + (mk W k : Int))) = _
    rw [upd_upd, upd_at]
    have s := vk_step W k hk
    have d : mk W k = vk W (k + 1) % 4096 := rfl
    congr 1
    simp only [IntKind.wrap_u64]
    omega
theorem consts_is (W N c x : Nat) (hW : W < 18446744073709551616) (hN : N < 8) (w : World) (L : LI w x 6 (ck W N)) :
    Calls Try.prog 19 #[.slice (some ⟨x, 0, none⟩) 6 c, .agg #[.int .u64 1, .int .u64 2, .int .u64 3, .int .u64 4, .int .u64 5, .int .u64 6, .int .u64 7, .int .u64 8], .int .i64 6] w
      fun r w' => r = .returned (.tuple #[.agg (rc (upd g8 N (W : Int))), .int .i64 6]) ∧ w.grownBy w' none := by
  have h := runs_is (ck W N) 6 c 6 6 (Fc W N) (fun k => k) x w L (by omega) (by omega) (Nat.le_refl _) (.inl rfl) rfl (fun k hk => hk) (fun k hk => const_step W N k hW hN hk)
  have fK : Fc W N 6 = upd g8 N (W : Int) := by
    have : vk W 6 = W := by unfold vk; simp
    unfold Fc
    rw [if_neg (by decide), this]
  rw [fK] at h
  exact h

/-! ### The list that is built -/
abbrev eI (i : I) : List Value := [.int .i64 i.o, .int .i64 i.a, .int .i64 i.b, .int .i64 i.m]
theorem encI : Enc eI 4 := ⟨by decide, fun _ => rfl, fun x u hu => by simp at hu; rcases hu with rfl | rfl | rfl | rfl <;> rfl⟩
abbrev IL (w : World) (B : Nat) (v : Value) (L : List I) : Prop := Ls eI 28 4 w B v L
theorem Try.infoIns : (Try.prog.info? 28).map (fun i => (i.zero, i.size, i.bytes)) = some (some (.agg #[.int .i64 0, .int .i64 0, .int .i64 0, .int .i64 0]), 4, 32) := by kernel_rfl
theorem run_append_i (w : World) (B : Nat) (v : Value) (L : List I) (hown : IL w B v L) (ty : TypeId) (i : I) (b c : Nat) (hx : Rw w b 28 (ic i)) (hn : L.length ≤ 100) (hB : B ≤ w.heap.size) :
    ∃ v' w', (Builtin.append_ #[51, 51] ty #[v, .slice (some ⟨b, 0, none⟩) 1 c]).run Try.prog w = .ok v' w' ∧ IL w' B v' (L ++ [i]) ∧ w.grownBy w' v.ownBlock ∧ (v'.ownBlock = v.ownBlock ∨ v'.ownBlock = some w.heap.size) := by
  obtain ⟨n, hi, hx0⟩ := Option.map_eq_some_iff.1 Try.infoIns
  simp only [Prod.mk.injEq] at hx0
  refine run_append_l encI Try.underlying51 hi hx0.1 hx0.2.1 hx0.2.2 (by kernel_rfl) (by decide) w B v L hown ty (some ⟨b, 0, none⟩) 1 c [i] rfl (by simp) ?_ (by omega) hB
  rintro ad ⟨⟩ j u h
  rw [Addr.add_lit, Nat.zero_add, hx.cell]
  simpa [cl] using h
theorem LI.of {w : World} {B g n cap : Nat} {L : List I} {l : Nat → I} (h : IL w B (.slice (some ⟨g, 0, none⟩) n cap) L) (hn : L.length = n) (hl : ∀ j, j < n → L[j]? = some (l j)) : LI w g n l := fun j hj =>
  ⟨by have := h.cell encI hn j 0 _ _ (hl j hj) rfl; simpa using this, h.cell encI hn j 1 _ _ (hl j hj) rfl, h.cell encI hn j 2 _ _ (hl j hj) rfl, h.cell encI hn j 3 _ _ (hl j hj) rfl⟩

/-- append wrote into the list's own block, or into a new one. -/
theorem gbOwn {w w1 w2 : World} {r : Option Nat} (G : w.grownBy w1 none) (g : w1.grownBy w2 r) (h : ∀ k, r = some k → w.heap.size ≤ k) : w.grownBy w2 none := by
  cases r with
  | none => exact gbTrans G g
  | some k => exact gbNew (gbTrans (gbAny G _) g) (h k rfl)
set_option maxHeartbeats 8000000 in
theorem core (W : Nat) (a1 : Int) (U N : Nat) (w : World) (p1 : IntKind.u64.wrap a1 = (U : Int)) (q1 : (U : Int) % 8 = (N : Int)) (hN : N < 8) (hW : W < 18446744073709551616) :
    Calls Try.prog 8 #[.int .u64 W, .int .i64 a1] w fun r w' => r = .returned (.bool true) ∧ w.grownBy w' none := by
  go_enter Try.func8, Try.ntmps8
  go_wp2_with fail
  refine (works_is _).mono ?_
  rintro r w0 ⟨rfl, G⟩
  go_upto_region 4 with fail
  clear p1 q1
  have L0 : Hid (IL w0 w0.heap.size (.slice none 0 0) ((List.range 0).map (ck W N))) := hideIt (Ls.nil _ _ _ _ _)
  have G0 := hideIt (gbRefl w0 none)
  go_wp2_with fail
  go_loopg [5, 6] 6 (fun gk s5 s6 wr => ∃ (j : Nat) (x0 : Option Addr) (c0 : Nat), j + gk = 6 ∧ s5 = .slice x0 j c0 ∧ s6 = .int .i64 (5 - (j : Int)) ∧ Hid (w0.grownBy wr none) ∧ Hid (IL wr w0.heap.size (.slice x0 j c0) ((List.range j).map (ck W N))))
  case atStart => exact ⟨0, none, 0, rfl, rfl, rfl, G0, L0⟩
  case round =>
    clear L0 G0
    obtain ⟨j, x0, c0, hj, rfl, rfl, G1, L1⟩ := hrel
    by_cases hlt : j < 6
    · have e : j = 0 ∨ j = 1 ∨ j = 2 ∨ j = 3 ∨ j = 4 ∨ j = 5 := by omega
      rcases e with rfl | rfl | rfl | rfl | rfl | rfl
      · have hc : ck W N 0 = ⟨1, N, 0, (W : Int) / 1152921504606846976 % 4096⟩ := by
          unfold ck mk vk
          simp only [I.mk.injEq, true_and]
          exact ⟨by decide, by rw [show 4096 ^ (6 - (0 + 1)) = 1152921504606846976 from by decide]; omega⟩
        obtain ⟨v', w2, hr, L2, g2, o2⟩ := run_append_i (wr.alloc (.cells #[.int .i64 1, .int .i64 (N : Int), .int .i64 0, .int .i64 ((W : Int) / 1152921504606846976 % 4096)] 28)) w0.heap.size (.slice x0 0 c0) _ (L1.out.kept (gbAlloc _ _ _)) 51 ⟨1, N, 0, (W : Int) / 1152921504606846976 % 4096⟩ wr.heap.size 1 (Rw.made wr (ic ⟨1, N, 0, (W : Int) / 1152921504606846976 % 4096⟩) _) (by simp) (by have := G1.out.size; simp; omega)
        rw [← hc] at L2
        replace L2 : IL w2 w0.heap.size v' ((List.range 1).map (ck W N)) := by rw [List.range_succ, List.map_append]; exact L2
        obtain ⟨x', c', rfl, _, xl, _⟩ := L2.has (n := 1) (by simp) (by decide)
        have G2 : Hid (w0.grownBy w2 none) := hideIt (gbOwn (gbAllocN G1.out _) g2 (fun k hk => (L1.out.lt k hk).1))
        replace L2 := hideIt L2
        clear L1 g2 o2 hc xl
        replace hr := hideIt hr
        go_wp2_with (at_builtin; refine wpList_append_run rfl _ _ rfl _ _ rfl rfl _ w2 hr.out ?_)
        go_roundg (gk - 1)
        case rel => exact ⟨1, _, c', by omega, rfl, by go_num, G2, L2⟩
        case measure => omega
      · have hc : ck W N 1 = ⟨17, N, 0, (W : Int) / 281474976710656 % 4096⟩ := by
          unfold ck mk vk
          simp only [I.mk.injEq, true_and]
          exact ⟨by decide, by rw [show 4096 ^ (6 - (1 + 1)) = 281474976710656 from by decide]; omega⟩
        obtain ⟨v', w2, hr, L2, g2, o2⟩ := run_append_i (wr.alloc (.cells #[.int .i64 17, .int .i64 (N : Int), .int .i64 0, .int .i64 ((W : Int) / 281474976710656 % 4096)] 28)) w0.heap.size (.slice x0 1 c0) _ (L1.out.kept (gbAlloc _ _ _)) 51 ⟨17, N, 0, (W : Int) / 281474976710656 % 4096⟩ wr.heap.size 1 (Rw.made wr (ic ⟨17, N, 0, (W : Int) / 281474976710656 % 4096⟩) _) (by simp) (by have := G1.out.size; simp; omega)
        rw [← hc] at L2
        replace L2 : IL w2 w0.heap.size v' ((List.range 2).map (ck W N)) := by rw [List.range_succ, List.map_append]; exact L2
        obtain ⟨x', c', rfl, _, xl, _⟩ := L2.has (n := 2) (by simp) (by decide)
        have G2 : Hid (w0.grownBy w2 none) := hideIt (gbOwn (gbAllocN G1.out _) g2 (fun k hk => (L1.out.lt k hk).1))
        replace L2 := hideIt L2
        clear L1 g2 o2 hc xl
        replace hr := hideIt hr
        go_wp2_with (at_builtin; refine wpList_append_run rfl _ _ rfl _ _ rfl rfl _ w2 hr.out ?_)
        go_roundg (gk - 1)
        case rel => exact ⟨2, _, c', by omega, rfl, by go_num, G2, L2⟩
        case measure => omega
      · have hc : ck W N 2 = ⟨17, N, 0, (W : Int) / 68719476736 % 4096⟩ := by
          unfold ck mk vk
          simp only [I.mk.injEq, true_and]
          exact ⟨by decide, by rw [show 4096 ^ (6 - (2 + 1)) = 68719476736 from by decide]; omega⟩
        obtain ⟨v', w2, hr, L2, g2, o2⟩ := run_append_i (wr.alloc (.cells #[.int .i64 17, .int .i64 (N : Int), .int .i64 0, .int .i64 ((W : Int) / 68719476736 % 4096)] 28)) w0.heap.size (.slice x0 2 c0) _ (L1.out.kept (gbAlloc _ _ _)) 51 ⟨17, N, 0, (W : Int) / 68719476736 % 4096⟩ wr.heap.size 1 (Rw.made wr (ic ⟨17, N, 0, (W : Int) / 68719476736 % 4096⟩) _) (by simp) (by have := G1.out.size; simp; omega)
        rw [← hc] at L2
        replace L2 : IL w2 w0.heap.size v' ((List.range 3).map (ck W N)) := by rw [List.range_succ, List.map_append]; exact L2
        obtain ⟨x', c', rfl, _, xl, _⟩ := L2.has (n := 3) (by simp) (by decide)
        have G2 : Hid (w0.grownBy w2 none) := hideIt (gbOwn (gbAllocN G1.out _) g2 (fun k hk => (L1.out.lt k hk).1))
        replace L2 := hideIt L2
        clear L1 g2 o2 hc xl
        replace hr := hideIt hr
        go_wp2_with (at_builtin; refine wpList_append_run rfl _ _ rfl _ _ rfl rfl _ w2 hr.out ?_)
        go_roundg (gk - 1)
        case rel => exact ⟨3, _, c', by omega, rfl, by go_num, G2, L2⟩
        case measure => omega
      · have hc : ck W N 3 = ⟨17, N, 0, (W : Int) / 16777216 % 4096⟩ := by
          unfold ck mk vk
          simp only [I.mk.injEq, true_and]
          exact ⟨by decide, by rw [show 4096 ^ (6 - (3 + 1)) = 16777216 from by decide]; omega⟩
        obtain ⟨v', w2, hr, L2, g2, o2⟩ := run_append_i (wr.alloc (.cells #[.int .i64 17, .int .i64 (N : Int), .int .i64 0, .int .i64 ((W : Int) / 16777216 % 4096)] 28)) w0.heap.size (.slice x0 3 c0) _ (L1.out.kept (gbAlloc _ _ _)) 51 ⟨17, N, 0, (W : Int) / 16777216 % 4096⟩ wr.heap.size 1 (Rw.made wr (ic ⟨17, N, 0, (W : Int) / 16777216 % 4096⟩) _) (by simp) (by have := G1.out.size; simp; omega)
        rw [← hc] at L2
        replace L2 : IL w2 w0.heap.size v' ((List.range 4).map (ck W N)) := by rw [List.range_succ, List.map_append]; exact L2
        obtain ⟨x', c', rfl, _, xl, _⟩ := L2.has (n := 4) (by simp) (by decide)
        have G2 : Hid (w0.grownBy w2 none) := hideIt (gbOwn (gbAllocN G1.out _) g2 (fun k hk => (L1.out.lt k hk).1))
        replace L2 := hideIt L2
        clear L1 g2 o2 hc xl
        replace hr := hideIt hr
        go_wp2_with (at_builtin; refine wpList_append_run rfl _ _ rfl _ _ rfl rfl _ w2 hr.out ?_)
        go_roundg (gk - 1)
        case rel => exact ⟨4, _, c', by omega, rfl, by go_num, G2, L2⟩
        case measure => omega
      · have hc : ck W N 4 = ⟨17, N, 0, (W : Int) / 4096 % 4096⟩ := by
          unfold ck mk vk
          simp only [I.mk.injEq, true_and]
          exact ⟨by decide, by rw [show 4096 ^ (6 - (4 + 1)) = 4096 from by decide]; omega⟩
        obtain ⟨v', w2, hr, L2, g2, o2⟩ := run_append_i (wr.alloc (.cells #[.int .i64 17, .int .i64 (N : Int), .int .i64 0, .int .i64 ((W : Int) / 4096 % 4096)] 28)) w0.heap.size (.slice x0 4 c0) _ (L1.out.kept (gbAlloc _ _ _)) 51 ⟨17, N, 0, (W : Int) / 4096 % 4096⟩ wr.heap.size 1 (Rw.made wr (ic ⟨17, N, 0, (W : Int) / 4096 % 4096⟩) _) (by simp) (by have := G1.out.size; simp; omega)
        rw [← hc] at L2
        replace L2 : IL w2 w0.heap.size v' ((List.range 5).map (ck W N)) := by rw [List.range_succ, List.map_append]; exact L2
        obtain ⟨x', c', rfl, _, xl, _⟩ := L2.has (n := 5) (by simp) (by decide)
        have G2 : Hid (w0.grownBy w2 none) := hideIt (gbOwn (gbAllocN G1.out _) g2 (fun k hk => (L1.out.lt k hk).1))
        replace L2 := hideIt L2
        clear L1 g2 o2 hc xl
        replace hr := hideIt hr
        go_wp2_with (at_builtin; refine wpList_append_run rfl _ _ rfl _ _ rfl rfl _ w2 hr.out ?_)
        go_roundg (gk - 1)
        case rel => exact ⟨5, _, c', by omega, rfl, by go_num, G2, L2⟩
        case measure => omega
      · have hc : ck W N 5 = ⟨17, N, 0, (W : Int) % 4096⟩ := by
          unfold ck mk vk
          simp only [I.mk.injEq, true_and]
          exact ⟨by decide, by rw [show 4096 ^ (6 - (5 + 1)) = 1 from by decide]; omega⟩
        obtain ⟨v', w2, hr, L2, g2, o2⟩ := run_append_i (wr.alloc (.cells #[.int .i64 17, .int .i64 (N : Int), .int .i64 0, .int .i64 ((W : Int) % 4096)] 28)) w0.heap.size (.slice x0 5 c0) _ (L1.out.kept (gbAlloc _ _ _)) 51 ⟨17, N, 0, (W : Int) % 4096⟩ wr.heap.size 1 (Rw.made wr (ic ⟨17, N, 0, (W : Int) % 4096⟩) _) (by simp) (by have := G1.out.size; simp; omega)
        rw [← hc] at L2
        replace L2 : IL w2 w0.heap.size v' ((List.range 6).map (ck W N)) := by rw [List.range_succ, List.map_append]; exact L2
        obtain ⟨x', c', rfl, _, xl, _⟩ := L2.has (n := 6) (by simp) (by decide)
        have G2 : Hid (w0.grownBy w2 none) := hideIt (gbOwn (gbAllocN G1.out _) g2 (fun k hk => (L1.out.lt k hk).1))
        replace L2 := hideIt L2
        clear L1 g2 o2 hc xl
        replace hr := hideIt hr
        go_wp2_with (at_builtin; refine wpList_append_run rfl _ _ rfl _ _ rfl rfl _ w2 hr.out ?_)
        go_roundg (gk - 1)
        case rel => exact ⟨6, _, c', by omega, rfl, by go_num, G2, L2⟩
        case measure => omega
    · obtain rfl : j = 6 := by omega
      have c6 : ¬ (0 : Int) ≤ 5 - ((6 : Nat) : Int) := by decide
      obtain ⟨x, c, e, _, _, _⟩ := L1.out.has (n := 6) (by simp) (by decide)
      rw [e] at L1
      obtain ⟨rfl, rfl⟩ : x0 = some ⟨x, 0, none⟩ ∧ c0 = c := by simpa using e
      have L := hideIt (LI.of L1.out (by simp) (fun j hj => by simp [hj]) : LI wr x 6 (ck W N))
      have G2 := gbTrans G G1.out
      clear L1 G1 G e
      go_wp2_with fail
      refine (consts_is W N _ x hW hN wr L.out).mono ?_
      rintro r w2 ⟨rfl, g2⟩
      replace G2 := gbTrans G2 g2
      clear g2 L
      go_upto_region 13 with (first | (refine wpList_allocW rfl rfl zR ?_; intro V1 x1 X1 k1 l1) | (refine wpList_storeW rfl _ _ rfl rfl rfl X1 tkR rfl rfl (rc_one _) ?_; intro W3 R h1))
      replace G2 := gbMade G2 k1 l1 h1
      clear k1 l1 h1 X1
      have c1 := R.cell N
      rw [rc_at _ _ hN, upd_at] at c1
      have n0 : (0 : Int) ≤ (N : Int) := Int.natCast_nonneg _
      have n8 : (N : Int) < 8 := by omega
      go_wp2
      go_ret
      exact ⟨rfl, G2⟩

theorem walk (a0 : Int) (w0 : (Lit.int .u64 a0).wf = true) (a1 : Int) (w : World) :
    Calls Try.prog 8 #[.int .u64 a0, .int .i64 a1] w fun e w' => e = .returned (.bool true) ∧ Below w.heap.size w w' := by
  refine endWalk ?_
  obtain ⟨W, rfl, hW⟩ := natOf w0
  obtain ⟨U, N, p1, q1, hN⟩ := modN a1 8 (by decide)
  exact core W a1 U N w p1 q1 hN hW

set_option maxRecDepth 100000 in
theorem lifted (os : Os) (started : os.Started) (H : Type) (enc : TypeId × Value → H) :
    ReturnsInHanded {} Try.checked os 8 .any (Rows.codeConstsSpec.pre6 enc Try.prog Try.f8 Rows.codeConstsRow.domain false) (Rows.codeConstsSpec.post enc Try.prog Try.f8 false true false false) := by
  refine returnsInHanded_of_change (C := Try.checked) own started (by kernel_rfl) Try.func8
    (ChangeSpec.witness6 (enc := enc) (C := Try.checked) false ⟨#[], #[.int .u64 0, .int .i64 0], []⟩ 8 (by kernel_rfl) (by kernel_rfl) (by kernel_rfl) (by kernel_rfl)) ?_
  intro W base args ds gs before hval0 hW hcnd _
  have hval : ∀ (j : Nat) t v, Try.f8.params[j]? = some t → args[j]? = some v → Value.okWide Try.prog W .any base t v := hval0
  have hW' := hW
  obtain ⟨p, q, hA0, hV, rfl, hfz, hnd⟩ := hW
  have hA : DataW.TrodAll enc Try.prog W 0 (fun _ => true) true Try.f8.params.toList args.toList ds p := hA0
  rw [Try.params8] at hA hval
  obtain ⟨v0, vs0, d0, ds0, p0, q0, hargs, rfl, rfl, h0, r0⟩ := trodAll_cons hA
  obtain ⟨v1, vs1, d1, ds1, p1, q1, rfl, rfl, rfl, h1, r1⟩ := trodAll_cons r0
  obtain ⟨rfl, rfl, rfl⟩ := trodAll_nil r1
  obtain rfl : args = #[v0, v1] := by cases args; simp_all
  obtain ⟨rfl, rfl⟩ := trodVars_none hV
  obtain ⟨a0, rfl, rfl, rfl, w0⟩ := open_int Try.underlying24 (hval 0 24 v0 rfl rfl) h0
  obtain ⟨a1, rfl, rfl, rfl, w1⟩ := open_int Try.underlying3 (hval 1 3 v1 rfl rfl) h1
  clear hA0 hval0
  refine (walk a0 w0 a1 W).mono fun e W' ⟨he, bel⟩ => ?_
  subst he
  exact ⟨_, rfl, _, _, _, [], _, [], hW', trodAll_mk1 (shut_bool Try.underlying4 _), (trodAll_cons_mk (shut_int Try.underlying24 w0) (trodAll_cons_mk (shut_int Try.underlying3 w1) trodAll_mk0)), rfl, bel.frame _, fun h => by cases h⟩

theorem over : Rows.codeConstsRow.holds Try.pinned (OpenSpec.ofChange Rows.codeConstsSpec) :=
  OpenClaim.holds_of_wide 8 Try.f8 rfl rfl rfl rfl rfl rfl rfl ⟨rfl, rfl, rfl, rfl, rfl⟩ rfl rfl rfl rfl rfl (by kernel_rfl) Try.func8 (by kernel_rfl)
    (of_decide_eq_true (by kernel_rfl)) (by unfold Func.isWrapper; first | (rw [if_pos (by decide +kernel)]; kernel_rfl) | (rw [if_neg (by decide +kernel)]; exact ⟨rfl, rfl⟩))
    (fun os started H enc _ => lifted os started H enc)

theorem proved : Rows.CodeConstsSaid := over
end Go.Proofs.Yteekgfdffofnaaa.codeConsts
namespace Go.Proofs.Yteekgfdffofnaaa
theorem codeConsts_holds : Rows.CodeConstsSaid := codeConsts.proved
#print axioms codeConsts_holds
end Go.Proofs.Yteekgfdffofnaaa
