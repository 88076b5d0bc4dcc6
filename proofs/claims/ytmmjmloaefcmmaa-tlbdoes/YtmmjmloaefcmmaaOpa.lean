/-
  WHAT COMES IN: a list of acts (donjonlaw14's Op: nine cells); a word put anywhere; the four spaces' directories.
-/
import Derived.Test.YtmmjmloaefcmmaaAsw
import Derived.Test.YtmmjmloaefcmmaaArgs
namespace Go.Proofs.Ytmmjmloaefcmmaa
set_option maxRecDepth 10000
open Go.ChangeShapes Go.WideShapes Go.ChangeAt Go.RowKit
set_option linter.unusedVariables false

theorem add_pos (y : Addr) (j : Nat) (h : j ≠ 0) : y.add j = ⟨y.block, y.off + j, none⟩ := by unfold Addr.add; rw [if_neg h]

/-- An act. -/
structure Q where
  k : Int
  s : Int
  d : Int
  a : Int
  w : Bool
  e : E
  v : Nat
/-- An act in memory, from an address on. -/
structure El9 (w : World) (y : Addr) (q : Q) : Prop where
  at0 : w.cell? y = some (.int .i64 q.k)
  at1 : w.cell? ⟨y.block, y.off + 1, none⟩ = some (.int .i64 q.s)
  at2 : w.cell? ⟨y.block, y.off + 2, none⟩ = some (.int .i64 q.d)
  at3 : w.cell? ⟨y.block, y.off + 3, none⟩ = some (.int .i64 q.a)
  at4 : w.cell? ⟨y.block, y.off + 4, none⟩ = some (.bool q.w)
  at5 : w.cell? ⟨y.block, y.off + 5, none⟩ = some (.bool q.e.v)
  at6 : w.cell? ⟨y.block, y.off + 6, none⟩ = some (.bool q.e.w)
  at7 : w.cell? ⟨y.block, y.off + 7, none⟩ = some (.int .i64 q.e.a)
  at8 : w.cell? ⟨y.block, y.off + 8, none⟩ = some (.int .u64 (q.v : Int))
theorem El9.kept {w w' : World} {y : Addr} {q : Q} (h : El9 w y q) (g : w.grownBy w' none) : El9 w' y q :=
  ⟨g.cell h.at0 (by simp), g.cell h.at1 (by simp), g.cell h.at2 (by simp), g.cell h.at3 (by simp), g.cell h.at4 (by simp), g.cell h.at5 (by simp), g.cell h.at6 (by simp), g.cell h.at7 (by simp), g.cell h.at8 (by simp)⟩

theorem opCells {H : Type} {enc : TypeId × Value → H} {W : World} {base fuel : Nat} {spare : Nat → Bool} {held : Bool} {a : Option Addr} {len cap : Nat} {x : DataW H × List MemPlace}
    (h : DataW.trod enc Try.prog W base spare held fuel 23 [.slice a len cap] = some x) : ∀ i, i < len → ∃ x q, a = some x ∧ El9 W (x.add (i * 9)) q ∧ q.v < 18446744073709551616 := by
  intro i hi
  rcases Deep.open_slice Try.underlying23 h with ⟨hcs, _⟩ | ⟨y, l, c, m, n, D, Pl, hcs, _, hl, _, hm, _, hx⟩
  · simp at hcs; omega
  · simp at hcs
    obtain ⟨rfl, rfl, rfl⟩ := hcs
    have hlm : len ≤ m := by rw [hm]; split <;> omega
    obtain ⟨cs', h1, h2⟩ := hx i (by omega)
    have ce : Try.prog.cellsOf 38 = 9 := by kernel_rfl
    rw [ce] at h1
    obtain ⟨_, hlen, hcell⟩ := World.cells?_some h1
    obtain ⟨xs, k, hk, hxy, _, hxl, hf⟩ := DataW.trod_struct Try.underlying38 h2
    have c1 : Try.prog.cellsOf 3 = 1 := by kernel_rfl
    have c2 : Try.prog.cellsOf 4 = 1 := by kernel_rfl
    have c3 : Try.prog.cellsOf 35 = 3 := by kernel_rfl
    have c4 : Try.prog.cellsOf 36 = 1 := by kernel_rfl
    match xs, hxl, cs', hlen with
    | [y0, y1, y2, y3, y4, y5, y6], _, [v0, v1, v2, v3, v4, v5, v6, v7, v8], _ =>
      have g0 : DataW.trod enc Try.prog W base spare held k 3 [v0] = some y0 := by have := hf 0 _ rfl; simpa [c1] using this
      have g1 : DataW.trod enc Try.prog W base spare held k 3 [v1] = some y1 := by have := hf 1 _ rfl; simpa [c1] using this
      have g2 : DataW.trod enc Try.prog W base spare held k 3 [v2] = some y2 := by have := hf 2 _ rfl; simpa [c1] using this
      have g3 : DataW.trod enc Try.prog W base spare held k 3 [v3] = some y3 := by have := hf 3 _ rfl; simpa [c1] using this
      have g4 : DataW.trod enc Try.prog W base spare held k 4 [v4] = some y4 := by have := hf 4 _ rfl; simpa [c2] using this
      have g5 : DataW.trod enc Try.prog W base spare held k 35 [v5, v6, v7] = some y5 := by have := hf 5 _ rfl; simpa [c3] using this
      have g6 : DataW.trod enc Try.prog W base spare held k 36 [v8] = some y6 := by have := hf 6 _ rfl; simpa [c4] using this
      obtain ⟨xs1, k1, hk1, _, _, hxl1, hf1⟩ := DataW.trod_struct Try.underlying35 g5
      match xs1, hxl1 with
      | [z0, z1, z2], _ =>
        have s0 : DataW.trod enc Try.prog W base spare held k1 4 [v5] = some z0 := by have := hf1 0 _ rfl; simpa [c2] using this
        have s1 : DataW.trod enc Try.prog W base spare held k1 4 [v6] = some z1 := by have := hf1 1 _ rfl; simpa [c2] using this
        have s2 : DataW.trod enc Try.prog W base spare held k1 3 [v7] = some z2 := by have := hf1 2 _ rfl; simpa [c1] using this
        obtain ⟨A0, e0, _⟩ := DataW.trod_int Try.underlying3 g0
        obtain ⟨A1, e1, _⟩ := DataW.trod_int Try.underlying3 g1
        obtain ⟨A2, e2, _⟩ := DataW.trod_int Try.underlying3 g2
        obtain ⟨A3, e3, _⟩ := DataW.trod_int Try.underlying3 g3
        obtain ⟨A4, e4, _⟩ := DataW.trod_bool Try.underlying4 g4
        obtain ⟨A5, e5, _⟩ := DataW.trod_bool Try.underlying4 s0
        obtain ⟨A6, e6, _⟩ := DataW.trod_bool Try.underlying4 s1
        obtain ⟨A7, e7, _⟩ := DataW.trod_int Try.underlying3 s2
        obtain ⟨A8, e8, _, w8⟩ := DataW.trod_int Try.underlying36 g6
        simp only [List.cons.injEq, and_true] at e0 e1 e2 e3 e4 e5 e6 e7 e8
        subst e0; subst e1; subst e2; subst e3; subst e4; subst e5; subst e6; subst e7; subst e8
        have d0 := hcell 0 (by omega)
        have d1 := hcell 1 (by omega)
        have d2 := hcell 2 (by omega)
        have d3 := hcell 3 (by omega)
        have d4 := hcell 4 (by omega)
        have d5 := hcell 5 (by omega)
        have d6 := hcell 6 (by omega)
        have d7 := hcell 7 (by omega)
        have d8 := hcell 8 (by omega)
        rw [add_pos _ _ (by decide)] at d1 d2 d3 d4 d5 d6 d7 d8
        have z : (y.add (i * 9)).add 0 = y.add (i * 9) := by unfold Addr.add; simp
        rw [z] at d0
        have u8 := u64_wf w8
        obtain ⟨Z, rfl⟩ : ∃ Z : Nat, A8 = Z := ⟨A8.toNat, by have := u8.1; omega⟩
        exact ⟨y, ⟨A0, A1, A2, A3, A4, ⟨A5, A6, A7⟩, Z⟩, rfl, ⟨d0, d1, d2, d3, d4, d5, d6, d7, d8⟩, by have := u8.2; show Z < 18446744073709551616; omega⟩
/-- A list that comes in: each of its elements lies where it lies. -/
theorem opsArg {H : Type} {enc : TypeId × Value → H} {W : World} {base : Nat} {spare : Nat → Bool} {held : Bool} {a : Option Addr} {len cap : Nat} {d : DataW H} {p : List MemPlace}
    (h : DataW.Trod enc Try.prog W base spare held 23 (.slice a len cap) d p) : ∀ i, i < len → ∃ x q, a = some x ∧ El9 W (x.add (i * 9)) q ∧ q.v < 18446744073709551616 := by
  obtain ⟨fuel, hf⟩ := h
  exact opCells hf
/-- The acts that come in. -/
def Acts9 (w : World) (a : Option Addr) (len : Nat) : Prop := ∀ i, i < len → ∃ x q, a = some x ∧ El9 w (x.add (i * 9)) q ∧ q.v < 18446744073709551616
theorem Acts9.kept {w w' : World} {a : Option Addr} {len : Nat} (h : Acts9 w a len) (g : w.grownBy w' none) : Acts9 w' a len := fun i hi => by
  obtain ⟨x, q, h1, h2, h3⟩ := h i hi
  exact ⟨x, q, h1, h2.kept g, h3⟩

abbrev nineCells (q : Q) : Array Value := #[.int .i64 q.k, .int .i64 q.s, .int .i64 q.d, .int .i64 q.a, .bool q.w, .bool q.e.v, .bool q.e.w, .int .i64 q.e.a, .int .u64 (q.v : Int)]
/-- An act, in a block of its own. -/
structure OBox (w : World) (x : Nat) (q : Q) : Prop where
  at0 : w.cell? ⟨x, 0, none⟩ = some (.int .i64 q.k)
  at1 : w.cell? ⟨x, 1, none⟩ = some (.int .i64 q.s)
  at2 : w.cell? ⟨x, 2, none⟩ = some (.int .i64 q.d)
  at3 : w.cell? ⟨x, 3, none⟩ = some (.int .i64 q.a)
  at4 : w.cell? ⟨x, 4, none⟩ = some (.bool q.w)
  at5 : w.cell? ⟨x, 5, none⟩ = some (.bool q.e.v)
  at6 : w.cell? ⟨x, 6, none⟩ = some (.bool q.e.w)
  at7 : w.cell? ⟨x, 7, none⟩ = some (.int .i64 q.e.a)
  at8 : w.cell? ⟨x, 8, none⟩ = some (.int .u64 (q.v : Int))
  lt : x < w.heap.size
theorem OBox.fr {O : Nat → Prop} {w w' : World} {x : Nat} {q : Q} (h : OBox w x q) (k : Fr O w w') (ho : ¬ O x) : OBox w' x q :=
  ⟨k.cell h.at0 ho, k.cell h.at1 ho, k.cell h.at2 ho, k.cell h.at3 ho, k.cell h.at4 ho, k.cell h.at5 ho, k.cell h.at6 ho, k.cell h.at7 ho, k.cell h.at8 ho, Nat.lt_of_lt_of_le h.lt k.size⟩
theorem OBox.kept {w w' : World} {x : Nat} {q : Q} (h : OBox w x q) (g : w.grownBy w' none) : OBox w' x q := h.fr (O := fun _ => False) (Fr.grown g) (fun e => e)
theorem OBox.keep {w w' : World} {x b : Nat} {q : Q} (h : OBox w x q) (g : w.grownBy w' (some b)) (hb : x ≠ b) : OBox w' x q := h.fr (O := fun i => i = b) (Fr.at g rfl) hb
theorem oboxNew (w : World) (q : Q) : ∃ W, w.alloc (.cells (nineCells q) 38) = W ∧ OBox W w.heap.size q ∧ w.grownBy W none :=
  ⟨_, rfl, ⟨by simp, by simp, by simp, by simp, by simp, by simp, by simp, by simp, by simp, by simp⟩, gbAlloc _ _ _⟩

/-! ### A word put anywhere -/
/-- The words behind a Put. -/
def M.wf (n : Nat) (F : Nat → Nat) (a : Int) (v : Nat) : Nat → Nat := fun i => if Y2.There n a 1 ∧ i = a.toNat then v else F i
theorem M.wf_int (n : Nat) (F : Nat → Nat) (a : Int) (v : Nat) : Y2.putF n (fun i => (F i : Int)) a (v : Int) = fun i => ((M.wf n F a v i : Nat) : Int) := by
  funext i
  unfold Y2.putF M.wf
  split <;> rfl
theorem M.wf_lt {n : Nat} {F : Nat → Nat} {a : Int} {v : Nat} (hF : ∀ i, F i < 18446744073709551616) (hv : v < 18446744073709551616) (i : Nat) : M.wf n F a v i < 18446744073709551616 := by
  unfold M.wf
  split
  · exact hv
  · exact hF i
theorem Mm.putAny {w : World} {p b n : Nat} {F : Nat → Nat} (h : Mm w p b n F) (a : Int) (v : Nat) (hv : v < 18446744073709551616) (f : Int) (hf : Y2.errP n a 1 = f) :
    Calls Try.prog 19 #[.pointer (some ⟨p, 0, none⟩), .int .i64 a, .int .u64 v] w fun e w' => e = .returned (.int .i64 f) ∧ Mm w' p b n (M.wf n F a v) ∧ w.grownBy w' (some b) := by
  subst hf
  refine (Y2.put_any w p b n a v _ h.is).mono ?_
  rintro e w' ⟨rfl, m, g⟩
  exact ⟨rfl, ⟨by rw [← M.wf_int]; exact m, M.wf_lt h.lt hv⟩, g⟩
theorem Rm.putAny {w : World} {p b n : Nat} {F : Nat → Nat} (h : Rm w p b n F) (a : Int) (v : Nat) (hv : v < 18446744073709551616) (f : Int) (hf : Y2.errP n a 1 = f) :
    Calls Try.prog 20 #[.pointer (some ⟨p, 0, none⟩), .int .i64 a, .int .u64 v] w fun e w' => e = .returned (.int .i64 f) ∧ Rm w' p b n (M.wf n F a v) ∧ w.grownBy w' (some b) := by
  subst hf
  refine (Y2.rput_any w p b n a v _ h.is).mono ?_
  rintro e w' ⟨rfl, m, g⟩
  exact ⟨rfl, ⟨by rw [← M.wf_int]; exact m, M.wf_lt h.lt hv⟩, g⟩

/-! ### Numbers that come in -/
/-- The numbers that come in, by a function. -/
theorem numsArg {w : World} {a : Option Addr} {len : Nat} (h : ∀ i, i < len → ∃ x z, a = some x ∧ w.cell? (x.add i) = some (.int .i64 z)) : ∃ f : Nat → Int, ∀ i, i < len → ∃ x, a = some x ∧ w.cell? (x.add i) = some (.int .i64 (f i)) := by
  refine ⟨fun i => if hi : i < len then Classical.choose (Classical.choose_spec (h i hi)) else 0, fun i hi => ?_⟩
  refine ⟨Classical.choose (h i hi), ?_⟩
  have := Classical.choose_spec (Classical.choose_spec (h i hi))
  simp only [dif_pos hi]
  exact this
end Go.Proofs.Ytmmjmloaefcmmaa
