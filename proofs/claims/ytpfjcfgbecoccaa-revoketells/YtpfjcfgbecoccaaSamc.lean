/-
  THE CONTRACTS of donjonlaw11's SameCaps (of lists that are the same), slot and works.
-/
import Derived.Test.YtpfjcfgbecoccaaFace
import Derived.Test.YtpfjcfgbecoccaaFall
namespace Go.Proofs.Ytpfjcfgbecoccaa
set_option maxRecDepth 10000
open Go.RowKit
set_option linter.unusedVariables false

/-- A list of capabilities that the parts do not have. -/
structure CB (wc : World) (Oc : Nat → Prop) (v : Value) (T : List C) : Prop where
  tl : TL wc 0 v T
  no : ∀ g, v.ownBlock = some g → ¬ Oc g
theorem CB.kept {wc wd : World} {Oc : Nat → Prop} {v : Value} {T : List C} (h : CB wc Oc v T) (g : wc.grownBy wd none) : CB wd Oc v T := ⟨h.tl.kept g, h.no⟩
theorem CB.call {wc wd : World} {Oc : Nat → Prop} {v : Value} {T : List C} (h : CB wc Oc v T) (F : Fr Oc wc wd) : CB wd (wide Oc wc wd) v T := ⟨h.tl.fr F h.no, fun g hg => wideNo (h.no g hg) (h.tl.lt g hg).2⟩
/-- A call whose new blocks are some of what is new. -/
theorem CB.call' {wc wd : World} {Oc Od : Nat → Prop} {v : Value} {T : List C} (h : CB wc Oc v T) (F : Fr Oc wc wd) (hs : ∀ i, Od i → Oc i ∨ wc.heap.size ≤ i) : CB wd Od v T :=
  ⟨h.tl.fr F h.no, fun g hg e => by
    rcases hs g e with e | e
    · exact h.no g hg e
    · have := (h.tl.lt g hg).2; omega⟩
theorem LB.call' {wc wd : World} {Oc Od : Nat → Prop} {v : Value} {L : List (Int × Int)} (h : LB wc Oc v L) (F : Fr Oc wc wd) (hs : ∀ i, Od i → Oc i ∨ wc.heap.size ≤ i) : LB wd Od v L :=
  ⟨h.ls.fr F h.no, fun g hg e => by
    rcases hs g e with e | e
    · exact h.no g hg e
    · have := (h.ls.lt g hg).2; omega⟩
theorem SB.call' {wc wd : World} {Oc Od : Nat → Prop} {x : Nat} {n i : Int} (h : SB wc Oc x n i) (F : Fr Oc wc wd) (hs : ∀ i, Od i → Oc i ∨ wc.heap.size ≤ i) : SB wd Od x n i :=
  ⟨F.sbox h.sb h.no, fun e => by
    rcases hs x e with e | e
    · exact h.no e
    · have := h.sb.lt; omega⟩
theorem BB.call' {wc wd : World} {Oc Od : Nat → Prop} {x : Nat} {c : C} (h : BB wc Oc x c) (F : Fr Oc wc wd) (hs : ∀ i, Od i → Oc i ∨ wc.heap.size ≤ i) : BB wd Od x c :=
  ⟨F.box h.bx h.no, fun e => by
    rcases hs x e with e | e
    · exact h.no e
    · have := h.bx.lt; omega⟩
abbrev Six' (w : World) (x j : Nat) (c : C) : Prop := w.cell? ⟨x, j, none⟩ = some (.int .i64 c.k) ∧ w.cell? ⟨x, j + 1, none⟩ = some (.int .i64 c.o) ∧ w.cell? ⟨x, j + 2, none⟩ = some (.int .i64 c.r) ∧ w.cell? ⟨x, j + 3, none⟩ = some (.int .u64 c.b) ∧ w.cell? ⟨x, j + 4, none⟩ = some (.int .u64 c.g) ∧ w.cell? ⟨x, j + 5, none⟩ = some (.int .i64 c.n)
theorem TL.el {w : World} {B g n cap : Nat} {T : List C} (h : TL w B (.slice (some ⟨g, 0, none⟩) n cap) T) (j : Nat) (c : C) (hj : T[j]? = some c) : Six' w g (j * 6) c := by
  rcases h.form with ⟨e, _⟩ | ⟨g', cap', e, _, _, _, _, hc⟩
  · cases e
  · simp only [Value.slice.injEq, Option.some.injEq, Addr.mk.injEq, and_true] at e
    obtain ⟨rfl, _, _⟩ := e
    obtain ⟨h0, h1, h2, h3, h4, h5⟩ := cellsC_get T j c hj
    have k := fun i u (hi : (cellsC T)[i]? = some u) => hc i u hi
    simp only [Addr.add_lit, Nat.zero_add] at k
    exact ⟨k _ _ h0, k _ _ h1, k _ _ h2, k _ _ h3, k _ _ h4, k _ _ h5⟩
set_option maxHeartbeats 400000 in
theorem samec_none (w : World) (x y : Option Addr) (c d : Nat) : Calls Try.prog 15 #[.slice x 0 c, .slice y 0 d] w fun e w' => e = .returned (.bool true) ∧ w.grownBy w' none := by
  go_enter Try.func15, Try.ntmps15
  go_wp2
  refine wp_loop_rounds 1 ?_
  rw [rounds_succ]
  go_wp2
  go_ret
  exact ⟨rfl, gbRefl _ _⟩
set_option maxHeartbeats 1000000 in
theorem samec_some {w : World} {B B' g g' n cap cap' : Nat} {T : List C} (hn : Hid (T.length = n)) (hl : n ≤ 2000) (h : Hid (TL w B (.slice (some ⟨g, 0, none⟩) n cap) T)) (h' : Hid (TL w B' (.slice (some ⟨g', 0, none⟩) n cap') T)) :
    Calls Try.prog 15 #[.slice (some ⟨g, 0, none⟩) n cap, .slice (some ⟨g', 0, none⟩) n cap'] w fun e w' => e = .returned (.bool true) ∧ w.grownBy w' none := by
  have qn := run_neq_cap
  have qg := eqGuardCap
  go_enter Try.func15, Try.ntmps15
  go_wp2
  go_loopg [5] (n + 1) (fun y i wr => ∃ c : Nat, c + y = n + 1 ∧ c ≤ n ∧ i = .int .i64 c ∧ w.grownBy wr none)
  case atStart => exact ⟨0, by omega, by omega, rfl, gbRefl _ _⟩
  case round =>
    obtain ⟨c, hc, hcj, rfl, gw⟩ := hrel
    by_cases ej : c = n
    · have hlt' : ¬ (c : Int) < (n : Int) := by omega
      go_wp2
      go_ret
      exact ⟨rfl, gw⟩
    · have hlt' : (c : Int) < (n : Int) := by omega
      have hlt2 : c < n := by omega
      obtain ⟨d, hd⟩ : ∃ d, T[c]? = some d := ⟨_, List.getElem?_eq_getElem (by rw [hn.out]; omega)⟩
      obtain ⟨k, o, r, b, q, t⟩ := d
      have E := fun y : Gr wr => (h.out.kept (gbTrans gw y.g)).el c _ hd
      have E' := fun y : Gr wr => (h'.out.kept (gbTrans gw y.g)).el c _ hd
      have e0 : ∀ y : Gr wr, y.w.cell? ⟨g, c * 6, none⟩ = some (.int .i64 k) := fun y => (E y).1
      have e1 : ∀ y : Gr wr, y.w.cell? ⟨g, c * 6 + 1, none⟩ = some (.int .i64 o) := fun y => (E y).2.1
      have e2 : ∀ y : Gr wr, y.w.cell? ⟨g, c * 6 + 2, none⟩ = some (.int .i64 r) := fun y => (E y).2.2.1
      have e3 : ∀ y : Gr wr, y.w.cell? ⟨g, c * 6 + 3, none⟩ = some (.int .u64 b) := fun y => (E y).2.2.2.1
      have e4 : ∀ y : Gr wr, y.w.cell? ⟨g, c * 6 + 4, none⟩ = some (.int .u64 q) := fun y => (E y).2.2.2.2.1
      have e5 : ∀ y : Gr wr, y.w.cell? ⟨g, c * 6 + 5, none⟩ = some (.int .i64 t) := fun y => (E y).2.2.2.2.2
      have f0 : ∀ y : Gr wr, y.w.cell? ⟨g', c * 6, none⟩ = some (.int .i64 k) := fun y => (E' y).1
      have f1 : ∀ y : Gr wr, y.w.cell? ⟨g', c * 6 + 1, none⟩ = some (.int .i64 o) := fun y => (E' y).2.1
      have f2 : ∀ y : Gr wr, y.w.cell? ⟨g', c * 6 + 2, none⟩ = some (.int .i64 r) := fun y => (E' y).2.2.1
      have f3 : ∀ y : Gr wr, y.w.cell? ⟨g', c * 6 + 3, none⟩ = some (.int .u64 b) := fun y => (E' y).2.2.2.1
      have f4 : ∀ y : Gr wr, y.w.cell? ⟨g', c * 6 + 4, none⟩ = some (.int .u64 q) := fun y => (E' y).2.2.2.2.1
      have f5 : ∀ y : Gr wr, y.w.cell? ⟨g', c * 6 + 5, none⟩ = some (.int .i64 t) := fun y => (E' y).2.2.2.2.2
      have hs : M.eq ⟨k, o, r, b, q, t⟩ ⟨k, o, r, b, q, t⟩ = true := M.eq_iff.2 rfl
      clear hd E E'
      go_wp2
      refine wp_region_grown (by kernel_rfl) (by kernel_rfl) fun _ => ?_
      repeat (go_big_quiet_step (fail))
      refine wpQuiet_nil ?_
      rintro w2 ⟨⟨_, g2⟩, rfl⟩
      go_wp2
      go_roundg (gk - 1)
      case rel => exact ⟨c + 1, by omega, by omega, by go_num, gbTrans gw g2⟩
      case measure => omega
theorem samec_is {w : World} {B B' : Nat} {v v' : Value} {T : List C} (h : TL w B v T) (h' : TL w B' v' T) (hl : T.length ≤ 2000) :
    Calls Try.prog 15 #[v, v'] w fun e w' => e = .returned (.bool true) ∧ w.grownBy w' none := by
  rcases h.form with ⟨rfl, rfl⟩ | ⟨g, cap, rfl, _⟩
  · rcases h'.form with ⟨rfl, _⟩ | ⟨g', cap', rfl, _⟩
    · exact samec_none w _ _ _ _
    · exact samec_none w _ _ _ _
  · rcases h'.form with ⟨rfl, rfl⟩ | ⟨g', cap', rfl, _⟩
    · exact samec_none w _ _ _ _
    · exact samec_some (hideIt rfl) hl (hideIt h) (hideIt h')
set_option maxHeartbeats 400000 in
theorem slot_is (n : Int) (w : World) : Calls Try.prog 22 #[.int .i64 n] w fun e w' => e = .returned (sv 0 n) ∧ w.grownBy w' none := by
  go_enter Try.func22, Try.ntmps22
  go_wp2
  exact bodyPost_ret (v := sv 0 n) (by simp [results, Try.results22, go_sem]) rfl ⟨rfl, by
    repeat (first | with_reducible exact gbRefl _ _ | with_reducible refine gbAllocN ?_ _ | with_reducible refine gbSetNew ?_ _ _ _ (Nat.le_refl _))⟩
end Go.Proofs.Ytpfjcfgbecoccaa
