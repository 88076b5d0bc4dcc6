/-
  WHAT COMES IN: a list of acts (donjonlaw15's Op: five cells); an act, of the program and plain.
-/
import Derived.Test.YtfdnangceomeiaaLis
import Derived.Test.YtfdnangceomeiaaArgs
namespace Go.Proofs.Ytfdnangceomeiaa
set_option maxRecDepth 10000
open Go.ChangeShapes Go.WideShapes Go.ChangeAt Go.RowKit
set_option linter.unusedVariables false

theorem add_pos (y : Addr) (j : Nat) (h : j ≠ 0) : y.add j = ⟨y.block, y.off + j, none⟩ := by unfold Addr.add; rw [if_neg h]

/-- An act. -/
structure Q where
  k : Int
  d : Int
  a : Int
  t : Int
  w : Bool
/-- An act in memory, from an address on. -/
structure El5 (w : World) (y : Addr) (q : Q) : Prop where
  at0 : w.cell? y = some (.int .i64 q.k)
  at1 : w.cell? ⟨y.block, y.off + 1, none⟩ = some (.int .i64 q.d)
  at2 : w.cell? ⟨y.block, y.off + 2, none⟩ = some (.int .i64 q.a)
  at3 : w.cell? ⟨y.block, y.off + 3, none⟩ = some (.int .i64 q.t)
  at4 : w.cell? ⟨y.block, y.off + 4, none⟩ = some (.bool q.w)
theorem El5.kept {w w' : World} {y : Addr} {q : Q} (h : El5 w y q) (g : w.grownBy w' none) : El5 w' y q :=
  ⟨g.cell h.at0 (by simp), g.cell h.at1 (by simp), g.cell h.at2 (by simp), g.cell h.at3 (by simp), g.cell h.at4 (by simp)⟩

theorem opCells {H : Type} {enc : TypeId × Value → H} {W : World} {base fuel : Nat} {spare : Nat → Bool} {held : Bool} {a : Option Addr} {len cap : Nat} {x : DataW H × List MemPlace}
    (h : DataW.trod enc Try.prog W base spare held fuel 23 [.slice a len cap] = some x) : ∀ i, i < len → ∃ x q, a = some x ∧ El5 W (x.add (i * 5)) q := by
  intro i hi
  rcases Deep.open_slice Try.underlying23 h with ⟨hcs, _⟩ | ⟨y, l, c, m, n, D, Pl, hcs, _, hl, _, hm, _, hx⟩
  · simp at hcs; omega
  · simp at hcs
    obtain ⟨rfl, rfl, rfl⟩ := hcs
    have hlm : len ≤ m := by rw [hm]; split <;> omega
    obtain ⟨cs', h1, h2⟩ := hx i (by omega)
    have ce : Try.prog.cellsOf 31 = 5 := by kernel_rfl
    rw [ce] at h1
    obtain ⟨_, hlen, hcell⟩ := World.cells?_some h1
    obtain ⟨xs, k, hk, hxy, _, hxl, hf⟩ := DataW.trod_struct Try.underlying31 h2
    have c1 : Try.prog.cellsOf 3 = 1 := by kernel_rfl
    have c2 : Try.prog.cellsOf 4 = 1 := by kernel_rfl
    match xs, hxl, cs', hlen with
    | [y0, y1, y2, y3, y4], _, [v0, v1, v2, v3, v4], _ =>
      have g0 : DataW.trod enc Try.prog W base spare held k 3 [v0] = some y0 := by have := hf 0 _ rfl; simpa [c1] using this
      have g1 : DataW.trod enc Try.prog W base spare held k 3 [v1] = some y1 := by have := hf 1 _ rfl; simpa [c1] using this
      have g2 : DataW.trod enc Try.prog W base spare held k 3 [v2] = some y2 := by have := hf 2 _ rfl; simpa [c1] using this
      have g3 : DataW.trod enc Try.prog W base spare held k 3 [v3] = some y3 := by have := hf 3 _ rfl; simpa [c1] using this
      have g4 : DataW.trod enc Try.prog W base spare held k 4 [v4] = some y4 := by have := hf 4 _ rfl; simpa [c2] using this
      obtain ⟨A0, e0, _⟩ := DataW.trod_int Try.underlying3 g0
      obtain ⟨A1, e1, _⟩ := DataW.trod_int Try.underlying3 g1
      obtain ⟨A2, e2, _⟩ := DataW.trod_int Try.underlying3 g2
      obtain ⟨A3, e3, _⟩ := DataW.trod_int Try.underlying3 g3
      obtain ⟨A4, e4, _⟩ := DataW.trod_bool Try.underlying4 g4
      simp only [List.cons.injEq, and_true] at e0 e1 e2 e3 e4
      subst e0; subst e1; subst e2; subst e3; subst e4
      have d0 := hcell 0 (by omega)
      have d1 := hcell 1 (by omega)
      have d2 := hcell 2 (by omega)
      have d3 := hcell 3 (by omega)
      have d4 := hcell 4 (by omega)
      rw [add_pos _ _ (by decide)] at d1 d2 d3 d4
      have z : (y.add (i * 5)).add 0 = y.add (i * 5) := by unfold Addr.add; simp
      rw [z] at d0
      exact ⟨y, ⟨A0, A1, A2, A3, A4⟩, rfl, ⟨d0, d1, d2, d3, d4⟩⟩
/-- A list that comes in: each of its elements lies where it lies. -/
theorem opsArg {H : Type} {enc : TypeId × Value → H} {W : World} {base : Nat} {spare : Nat → Bool} {held : Bool} {a : Option Addr} {len cap : Nat} {d : DataW H} {p : List MemPlace}
    (h : DataW.Trod enc Try.prog W base spare held 23 (.slice a len cap) d p) : ∀ i, i < len → ∃ x q, a = some x ∧ El5 W (x.add (i * 5)) q := by
  obtain ⟨fuel, hf⟩ := h
  exact opCells hf
/-- The acts that come in. -/
def Acts5 (w : World) (a : Option Addr) (len : Nat) : Prop := ∀ i, i < len → ∃ x q, a = some x ∧ El5 w (x.add (i * 5)) q
theorem Acts5.kept {w w' : World} {a : Option Addr} {len : Nat} (h : Acts5 w a len) (g : w.grownBy w' none) : Acts5 w' a len := fun i hi => by
  obtain ⟨x, q, h1, h2⟩ := h i hi
  exact ⟨x, q, h1, h2.kept g⟩

abbrev ov (q : Q) : Value := .agg #[.int .i64 q.k, .int .i64 q.d, .int .i64 q.a, .int .i64 q.t, .bool q.w]
abbrev oCells (q : Q) : Array Value := #[.int .i64 q.k, .int .i64 q.d, .int .i64 q.a, .int .i64 q.t, .bool q.w]
/-- An act, in a block of its own. -/
structure OBox (w : World) (x : Nat) (q : Q) : Prop where
  at0 : w.cell? ⟨x, 0, none⟩ = some (.int .i64 q.k)
  at1 : w.cell? ⟨x, 1, none⟩ = some (.int .i64 q.d)
  at2 : w.cell? ⟨x, 2, none⟩ = some (.int .i64 q.a)
  at3 : w.cell? ⟨x, 3, none⟩ = some (.int .i64 q.t)
  at4 : w.cell? ⟨x, 4, none⟩ = some (.bool q.w)
  lt : x < w.heap.size
theorem oboxNew (w : World) (q : Q) : ∃ W, w.alloc (.cells (oCells q) 31) = W ∧ OBox W w.heap.size q ∧ w.grownBy W none :=
  ⟨_, rfl, ⟨by simp, by simp, by simp, by simp, by simp, by simp⟩, gbAlloc _ _ _⟩

/-- An act: the error, and the words behind it. -/
def M.act (n : Nat) (F : Nat → Nat) (q : Q) : Int × (Nat → Nat) :=
  if (q.k == 0) = true then M.chg F (M.dp n q.d q.a (M.al n q.t)) (M.lay ⟨true, false, q.t⟩) else
  if (q.k == 1) = true then M.chg F (M.dp n q.d q.a true) M.out else
  if (q.k == 2) = true then M.chg F (M.tp n F q.d q.a (M.al n q.t)) (M.lay ⟨true, q.w, q.t⟩) else
  if (q.k == 3) = true then M.chg F (M.tp n F q.d q.a true) M.out else
  M.chg F (M.tp n F q.d q.a true) (M.alw q.w)

set_option maxHeartbeats 2000000 in
theorem act_is (w : World) (p b n : Nat) (F G : Nat → Nat) (q : Q) (f : Int) (hm : Mm w p b n F) (h : M.act n F q = (f, G)) :
    Calls Try.prog 9 #[.pointer (some ⟨p, 0, none⟩), ov q] w fun e w' => e = .returned (.int .i64 f) ∧ Mm w' p b n G ∧ w.grownBy w' (some b) := by
  obtain ⟨W0, hW0, X0, g0⟩ := oboxNew w q
  obtain ⟨k, d, a, t, o⟩ := q
  dsimp only [oCells] at hW0
  obtain ⟨x0, x1, x2, x3, x4, xl⟩ := X0
  simp only at x0 x1 x2 x3 x4
  unfold M.act at h
  simp only at h
  have HM := hideIt hm
  clear hm
  by_cases k0 : (k == 0) = true
  · rw [if_pos k0] at h
    replace h := hideIt h
    go_enter Try.func9, Try.ntmps9
    go_wp2_with fail
    refine (table_is _ p b n F G d a f t (HM.out.kept g0) h.out).mono ?_
    rintro e w1 ⟨rfl, m1, g1⟩
    clear hW0 x0 x1 x2 x3 x4
    go_wp2
    go_ret
    exact ⟨rfl, m1, gbTrans (gbAny g0 _) g1⟩
  rw [if_neg k0] at h
  have k0 : (k == 0) = false := by simpa using k0
  by_cases k1 : (k == 1) = true
  · rw [if_pos k1] at h
    replace h := hideIt h
    go_enter Try.func9, Try.ntmps9
    go_wp2_with fail
    refine (untable_is _ p b n F G d a f (HM.out.kept g0) h.out).mono ?_
    rintro e w1 ⟨rfl, m1, g1⟩
    clear hW0 x0 x1 x2 x3 x4
    go_wp2
    go_ret
    exact ⟨rfl, m1, gbTrans (gbAny g0 _) g1⟩
  rw [if_neg k1] at h
  have k1 : (k == 1) = false := by simpa using k1
  by_cases k2 : (k == 2) = true
  · rw [if_pos k2] at h
    replace h := hideIt h
    go_enter Try.func9, Try.ntmps9
    go_wp2_with fail
    refine (map_is _ p b n F G d a f t o (HM.out.kept g0) h.out).mono ?_
    rintro e w1 ⟨rfl, m1, g1⟩
    clear hW0 x0 x1 x2 x3 x4
    go_wp2
    go_ret
    exact ⟨rfl, m1, gbTrans (gbAny g0 _) g1⟩
  rw [if_neg k2] at h
  have k2 : (k == 2) = false := by simpa using k2
  by_cases k3 : (k == 3) = true
  · rw [if_pos k3] at h
    replace h := hideIt h
    go_enter Try.func9, Try.ntmps9
    go_wp2_with fail
    refine (unmap_is _ p b n F G d a f (HM.out.kept g0) h.out).mono ?_
    rintro e w1 ⟨rfl, m1, g1⟩
    clear hW0 x0 x1 x2 x3 x4
    go_wp2
    go_ret
    exact ⟨rfl, m1, gbTrans (gbAny g0 _) g1⟩
  rw [if_neg k3] at h
  have k3 : (k == 3) = false := by simpa using k3
  replace h := hideIt h
  go_enter Try.func9, Try.ntmps9
  go_wp2_with fail
  refine (remap_is _ p b n F G d a f o (HM.out.kept g0) h.out).mono ?_
  rintro e w1 ⟨rfl, m1, g1⟩
  clear hW0 x0 x1 x2 x3 x4
  go_wp2
  go_ret
  exact ⟨rfl, m1, gbTrans (gbAny g0 _) g1⟩
end Go.Proofs.Ytfdnangceomeiaa
