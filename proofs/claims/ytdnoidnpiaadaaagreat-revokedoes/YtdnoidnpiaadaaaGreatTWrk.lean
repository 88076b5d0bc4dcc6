/-
  A TREE THAT IS ALL NEW; the contracts of SameSlots, of donjonlaw09's slot and works: true.
-/
import Derived.Test.YtdnoidnpiaadaaaGreatTGone
import Derived.Test.YtdnoidnpiaadaaaGreatG15
namespace Go.Proofs.YtdnoidnpiaadaaaGreat
set_option maxRecDepth 10000
namespace T9
open Go.RowKit
set_option linter.unusedVariables false

theorem run_equal_slot (w : World) (a0 a1 : Int) : (Op.equalIn 10000 31 (.agg #[.int .i64 a0, .int .i64 a1]) (.agg #[.int .i64 a0, .int .i64 a1])).run Tryz.prog w = .ok true w := by
  rw [run_equalIn_agg w 9999 31 _ _ (by kernel_rfl) (by kernel_rfl)]
  simp only [go_sem, Program.fieldsOf, Tryz.underlying31]
  simp [go_sem, Tryz.underlying3]
theorem run_neq_slot (w : World) (a0 a1 : Int) : (binOp .neq 31 (.agg #[.int .i64 a0, .int .i64 a1]) (.agg #[.int .i64 a0, .int .i64 a1])).run Tryz.prog w = .ok (.bool false) w := by
  rw [run_neq_struct, run_equal_slot]; rfl
theorem eqGuardSlot : Tryz.prog.eqGuardType Tryz.prog.depth 31 = false := by kernel_rfl

set_option maxHeartbeats 1000000 in
theorem same_some {w : World} {g g' n cap cap' : Nat} {L : List (Int × Int)} (hn : Hid (L.length = n)) (hn2 : n ≤ 1024) (HR : Hid (Row w ⟨g, 0, none⟩ L)) (HR' : Hid (Row w ⟨g', 0, none⟩ L)) :
    Calls Tryz.prog 13 #[.slice (some ⟨g, 0, none⟩) n cap, .slice (some ⟨g', 0, none⟩) n cap'] w fun e w' => e = .returned (.bool true) ∧ w.grownBy w' none := by
  have qe := eqGuardSlot
  have qn := run_neq_slot
  go_enter Tryz.func13, Tryz.ntmps13
  go_wp2
  go_loopg [5] n (fun y i wr => ∃ c : Nat, c + y = n ∧ i = .int .i64 c ∧ w.grownBy wr none)
  case atStart => exact ⟨0, by omega, rfl, gbRefl _ _⟩
  case round =>
    obtain ⟨c, hc, rfl, gw⟩ := hrel
    by_cases hlt : c < n
    · have hlt' : (c : Int) < (n : Int) := by omega
      obtain ⟨⟨a, i⟩, hp⟩ : ∃ q, L[c]? = some q := ⟨_, List.getElem?_eq_getElem (by rw [hn.out]; exact hlt)⟩
      have E := (HR.out.kept gw) c _ hp
      have E' := (HR'.out.kept gw) c _ hp
      rw [Addr.add_lit, Nat.zero_add] at E E'
      simp only at E E'
      have e0 : ∀ y : Gr wr, y.w.cell? ⟨g, c * 2, none⟩ = some (.int .i64 a) := fun y => (E.kept y.g).at0
      have e1 : ∀ y : Gr wr, y.w.cell? ⟨g, c * 2 + 1, none⟩ = some (.int .i64 i) := fun y => (E.kept y.g).at1
      have e2 : ∀ y : Gr wr, y.w.cell? ⟨g', c * 2, none⟩ = some (.int .i64 a) := fun y => (E'.kept y.g).at0
      have e3 : ∀ y : Gr wr, y.w.cell? ⟨g', c * 2 + 1, none⟩ = some (.int .i64 i) := fun y => (E'.kept y.g).at1
      clear hp E E'
      go_wp2
      refine wp_region_grown (by kernel_rfl) (by kernel_rfl) fun _ => ?_
      repeat (go_big_quiet_step (fail))
      refine wpQuiet_nil ?_
      rintro w2 ⟨⟨_, g2⟩, rfl⟩
      go_wp2
      go_roundg (gk - 1)
      case rel => exact ⟨c + 1, by omega, by go_num, gbTrans gw g2⟩
      case measure => omega
    · have hlt' : ¬ (c : Int) < (n : Int) := by omega
      go_wp2
      go_ret
      exact ⟨rfl, gw⟩
set_option maxHeartbeats 400000 in
theorem same_none (w : World) (x y : Option Addr) (cap cap' : Nat) :
    Calls Tryz.prog 13 #[.slice x 0 cap, .slice y 0 cap'] w fun e w' => e = .returned (.bool true) ∧ w.grownBy w' none := by
  go_enter Tryz.func13, Tryz.ntmps13
  go_wp2
  refine wp_loop_rounds 1 ?_
  rw [rounds_succ]
  go_wp2
  go_ret
  exact ⟨rfl, gbRefl _ _⟩
theorem same_is {w : World} {B B' : Nat} {v v' : Value} {L : List (Int × Int)} (h : Lst w B v L) (h' : Lst w B' v' L) (hl : L.length ≤ 1024) :
    Calls Tryz.prog 13 #[v, v'] w fun e w' => e = .returned (.bool true) ∧ w.grownBy w' none := by
  rcases h.form with ⟨rfl, rfl⟩ | ⟨g, cap, rfl, _, _, _, _, hr⟩
  · rcases h'.form with ⟨rfl, _⟩ | ⟨g', cap', rfl, _⟩
    · exact same_none w _ _ _ _
    · exact same_none w _ _ _ _
  · rcases h'.form with ⟨rfl, rfl⟩ | ⟨g', cap', rfl, _, _, _, _, hr'⟩
    · exact same_none w _ _ _ _
    · exact same_some (hideIt rfl) hl (hideIt hr) (hideIt hr')

/-- A tree whose blocks were not there for w0; nothing else has turned since. -/
structure Own (w0 w : World) (O : Nat → Prop) (p : Nat) (f : Fo) : Prop where
  tat : TAt w p O f
  lo : ∀ i, O i → w0.heap.size ≤ i ∧ i < w.heap.size
  gr : w0.grownBy w none
  good : Good f
theorem Own.kept {w0 w w' : World} {O : Nat → Prop} {p : Nat} {f : Fo} (h : Own w0 w O p f) (g : w.grownBy w' none) : Own w0 w' O p f :=
  ⟨h.tat.kept g, fun i hi => ⟨(h.lo i hi).1, Nat.lt_of_lt_of_le (h.lo i hi).2 g.size⟩, gbTrans h.gr g, h.good⟩
theorem Own.keep {w0 w w' : World} {O : Nat → Prop} {p : Nat} {f : Fo} {r : Option Nat} (h : Own w0 w O p f) (g : w.grownBy w' r) (hx : ∀ x, r = some x → ¬ O x ∧ w0.heap.size ≤ x) : Own w0 w' O p f := by
  have F : Fr (fun i => r = some i) w w' := by
    cases e : r with
    | none => rw [e] at g; exact Fr.grown g
    | some x => rw [e] at g; exact Fr.at g rfl
  exact ⟨h.tat.fr F (fun i hi e => (hx i e).1 hi), fun i hi => ⟨(h.lo i hi).1, Nat.lt_of_lt_of_le (h.lo i hi).2 g.size⟩, gbNews (gbTrans (gbAny h.gr _) g) (fun k e => (hx k e).2), h.good⟩
theorem Own.step {w0 w w' : World} {O : Nat → Prop} {p : Nat} {f f' : Fo} (h : Own w0 w O p f) (A : TAt w' p (wide O w w') f') (F : Fr O w w') (G : Good f') : Own w0 w' (wide O w w') p f' := by
  have h1 := F.size
  have h2 := h.gr.size
  refine ⟨A, fun i hi => ?_, ((Fr.grown (O := O) h.gr).trans F).new (fun i hi e => absurd (h.lo i e).1 (by omega)), G⟩
  rcases hi with e | e
  · have := h.lo i e; omega
  · omega
/-- What is old or new stays apart from what the caller has. -/
theorem Own.apart {w0 w w' : World} {O : Nat → Prop} {p : Nat} {f : Fo} (h : Own w0 w O p f) {B : Nat} {v : Value} {L : List (Int × Int)} (l : Lst w B v L) (ho : ∀ g, v.ownBlock = some g → ¬ O g) (F : Fr O w w') : Lst w' B v L ∧ ∀ g, v.ownBlock = some g → ¬ wide O w w' g :=
  ⟨l.fr F ho, fun g hg e => by
    rcases e with e | e
    · exact ho g hg e
    · have := (l.lt g hg).2; omega⟩

/-! ### works -/
namespace M
abbrev t1 : Fo := .node 0 0 (1, 0) .nil .nil
abbrev t2 : Fo := .node 0 0 (1, 0) (.node 0 0 (2, 0) .nil .nil) .nil
abbrev t3 : Fo := .node 0 0 (1, 0) (.node 0 0 (2, 0) (.node 0 0 (3, 0) .nil .nil) .nil) .nil
abbrev t4 : Fo := .node 0 0 (1, 0) (.node 0 0 (2, 0) (.node 0 0 (3, 0) .nil .nil) (.node 0 0 (4, 0) .nil .nil)) .nil
abbrev t5 : Fo := .node 0 0 (1, 0) (.node 0 0 (3, 0) .nil (.node 0 0 (4, 0) .nil .nil)) .nil
theorem w1 : Fo.rootE .nil (1, 0) = 0 ∧ Fo.rootF .nil (1, 0) = t1 := ⟨rfl, rfl⟩
theorem w2 : Fo.childE t1 (1, 0) (2, 0) = 0 ∧ Fo.childF t1 (1, 0) (2, 0) = t2 := ⟨rfl, rfl⟩
theorem w3 : Fo.childE t2 (2, 0) (3, 0) = 0 ∧ Fo.childF t2 (2, 0) (3, 0) = t3 := ⟨rfl, rfl⟩
theorem w4 : Fo.childE t3 (1, 0) (4, 0) = 0 ∧ Fo.childF t3 (1, 0) (4, 0) = t4 := ⟨rfl, rfl⟩
theorem w5 : Fo.kin t4 (1, 0) = [(2, 0), (3, 0), (4, 0)] := rfl
theorem w6 : Fo.dropE t4 (2, 0) = 0 ∧ Fo.dropF t4 (2, 0) = t5 := ⟨rfl, rfl⟩
theorem w7 : Fo.children t5 (1, 0) = [(3, 0), (4, 0)] := rfl
theorem w8 : Fo.childE t5 (9, 0) (8, 0) = 3 ∧ Fo.childF t5 (9, 0) (8, 0) = t5 := ⟨rfl, rfl⟩
theorem w9 : Fo.len t5 = 3 := rfl
end M
end T9
end Go.Proofs.YtdnoidnpiaadaaaGreat
