/-
  WHAT COMES IN: a list of entries, a list of acts (donjonlaw21's Op: four cells). Two things side by side, all new.
-/
import Derived.Test.YtpacgdplbddclaaScb
import Derived.Lib.SmallJoins
import Derived.ProofKit
import Derived.OpenShut
import Derived.Below
import Derived.Deep.Slices
namespace Go.Proofs.Ytpacgdplbddclaa
set_option maxRecDepth 10000
open Go.ChangeShapes Go.WideShapes Go.ChangeAt Go.RowKit
set_option linter.unusedVariables false

theorem endWalk {P : Program} {f : FuncId} {args : Array Value} {w : World} (h : Calls P f args w fun e w' => e = .returned (.bool true) ∧ w.grownBy w' none) :
    Calls P f args w fun e w' => e = .returned (.bool true) ∧ Below w.heap.size w w' :=
  h.mono fun _ _ k => ⟨k.1, gbEnd k.2⟩

theorem add_pos (y : Addr) (j : Nat) (h : j ≠ 0) : y.add j = ⟨y.block, y.off + j, none⟩ := by unfold Addr.add; rw [if_neg h]

/-- An act. -/
structure Q where
  k : Int
  i : Int
  d : Int
  l : Int
/-- An act in memory, from an address on. -/
structure El4 (w : World) (y : Addr) (q : Q) : Prop where
  at0 : w.cell? y = some (.int .i64 q.k)
  at1 : w.cell? ⟨y.block, y.off + 1, none⟩ = some (.int .i64 q.i)
  at2 : w.cell? ⟨y.block, y.off + 2, none⟩ = some (.int .i64 q.d)
  at3 : w.cell? ⟨y.block, y.off + 3, none⟩ = some (.int .i64 q.l)
theorem El4.kept {w w' : World} {y : Addr} {q : Q} (h : El4 w y q) (g : w.grownBy w' none) : El4 w' y q :=
  ⟨g.cell h.at0 (by simp), g.cell h.at1 (by simp), g.cell h.at2 (by simp), g.cell h.at3 (by simp)⟩

theorem opCells {H : Type} {enc : TypeId × Value → H} {W : World} {base fuel : Nat} {spare : Nat → Bool} {held : Bool} {a : Option Addr} {len cap : Nat} {x : DataW H × List MemPlace}
    (h : DataW.trod enc Try.prog W base spare held fuel 23 [.slice a len cap] = some x) : ∀ i, i < len → ∃ x q, a = some x ∧ El4 W (x.add (i * 4)) q := by
  intro i hi
  rcases Deep.open_slice Try.underlying23 h with ⟨hcs, _⟩ | ⟨y, l, c, m, n, D, Pl, hcs, _, hl, _, hm, _, hx⟩
  · simp at hcs; omega
  · simp at hcs
    obtain ⟨rfl, rfl, rfl⟩ := hcs
    have hlm : len ≤ m := by rw [hm]; split <;> omega
    obtain ⟨cs', h1, h2⟩ := hx i (by omega)
    have ce : Try.prog.cellsOf 34 = 4 := by kernel_rfl
    rw [ce] at h1
    obtain ⟨_, hlen, hcell⟩ := World.cells?_some h1
    obtain ⟨xs, k, hk, hxy, _, hxl, hf⟩ := DataW.trod_struct Try.underlying34 h2
    have c1 : Try.prog.cellsOf 3 = 1 := by kernel_rfl
    match xs, hxl, cs', hlen with
    | [y0, y1, y2, y3], _, [v0, v1, v2, v3], _ =>
      have g0 : DataW.trod enc Try.prog W base spare held k 3 [v0] = some y0 := by have := hf 0 _ rfl; simpa [c1] using this
      have g1 : DataW.trod enc Try.prog W base spare held k 3 [v1] = some y1 := by have := hf 1 _ rfl; simpa [c1] using this
      have g2 : DataW.trod enc Try.prog W base spare held k 3 [v2] = some y2 := by have := hf 2 _ rfl; simpa [c1] using this
      have g3 : DataW.trod enc Try.prog W base spare held k 3 [v3] = some y3 := by have := hf 3 _ rfl; simpa [c1] using this
      obtain ⟨A0, e0, _⟩ := DataW.trod_int Try.underlying3 g0
      obtain ⟨A1, e1, _⟩ := DataW.trod_int Try.underlying3 g1
      obtain ⟨A2, e2, _⟩ := DataW.trod_int Try.underlying3 g2
      obtain ⟨A3, e3, _⟩ := DataW.trod_int Try.underlying3 g3
      simp only [List.cons.injEq, and_true] at e0 e1 e2 e3
      subst e0; subst e1; subst e2; subst e3
      have d0 := hcell 0 (by omega)
      have d1 := hcell 1 (by omega)
      have d2 := hcell 2 (by omega)
      have d3 := hcell 3 (by omega)
      rw [add_pos _ _ (by decide)] at d1 d2 d3
      have z : (y.add (i * 4)).add 0 = y.add (i * 4) := by unfold Addr.add; simp
      rw [z] at d0
      exact ⟨y, ⟨A0, A1, A2, A3⟩, rfl, ⟨d0, d1, d2, d3⟩⟩
/-- A list that comes in: each of its elements lies where it lies. -/
theorem opsArg {H : Type} {enc : TypeId × Value → H} {W : World} {base : Nat} {spare : Nat → Bool} {held : Bool} {a : Option Addr} {len cap : Nat} {d : DataW H} {p : List MemPlace}
    (h : DataW.Trod enc Try.prog W base spare held 23 (.slice a len cap) d p) : ∀ i, i < len → ∃ x q, a = some x ∧ El4 W (x.add (i * 4)) q := by
  obtain ⟨fuel, hf⟩ := h
  exact opCells hf
/-- The acts that come in. -/
def Acts4 (w : World) (a : Option Addr) (len : Nat) : Prop := ∀ i, i < len → ∃ x q, a = some x ∧ El4 w (x.add (i * 4)) q
theorem Acts4.kept {w w' : World} {a : Option Addr} {len : Nat} (h : Acts4 w a len) (g : w.grownBy w' none) : Acts4 w' a len := fun i hi => by
  obtain ⟨x, q, h1, h2⟩ := h i hi
  exact ⟨x, q, h1, h2.kept g⟩

theorem timeCells {H : Type} {enc : TypeId × Value → H} {W : World} {base fuel : Nat} {spare : Nat → Bool} {held : Bool} {a : Option Addr} {len cap : Nat} {x : DataW H × List MemPlace}
    (h : DataW.trod enc Try.prog W base spare held fuel 22 [.slice a len cap] = some x) : ∀ i, i < len → ∃ (x : Addr) (o : Int × Int), a = some x ∧ W.cell? (x.add (i * 2)) = some (.int .i64 o.1) ∧ W.cell? ⟨(x.add (i * 2)).block, (x.add (i * 2)).off + 1, none⟩ = some (.int .i64 o.2) := by
  intro i hi
  rcases Deep.open_slice Try.underlying22 h with ⟨hcs, _⟩ | ⟨y, l, c, m, n, D, Pl, hcs, _, hl, _, hm, _, hx⟩
  · simp at hcs; omega
  · simp at hcs
    obtain ⟨rfl, rfl, rfl⟩ := hcs
    have hlm : len ≤ m := by rw [hm]; split <;> omega
    obtain ⟨cs', h1, h2⟩ := hx i (by omega)
    have ce : Try.prog.cellsOf 46 = 2 := by kernel_rfl
    rw [ce] at h1
    obtain ⟨_, hlen, hcell⟩ := World.cells?_some h1
    obtain ⟨xs, k, hk, hxy, _, hxl, hf⟩ := DataW.trod_struct Try.underlying46 h2
    have c1 : Try.prog.cellsOf 3 = 1 := by kernel_rfl
    match xs, hxl, cs', hlen with
    | [y0, y1], _, [v0, v1], _ =>
      have g0 : DataW.trod enc Try.prog W base spare held k 3 [v0] = some y0 := by have := hf 0 _ rfl; simpa [c1] using this
      have g1 : DataW.trod enc Try.prog W base spare held k 3 [v1] = some y1 := by have := hf 1 _ rfl; simpa [c1] using this
      obtain ⟨A0, e0, _⟩ := DataW.trod_int Try.underlying3 g0
      obtain ⟨A1, e1, _⟩ := DataW.trod_int Try.underlying3 g1
      simp only [List.cons.injEq, and_true] at e0 e1
      subst e0; subst e1
      have d0 := hcell 0 (by omega)
      have d1 := hcell 1 (by omega)
      rw [add_pos _ _ (by decide)] at d1
      have z : (y.add (i * 2)).add 0 = y.add (i * 2) := by unfold Addr.add; simp
      rw [z] at d0
      exact ⟨y, ⟨A0, A1⟩, rfl, d0, d1⟩
/-- A list out of its elements. -/
theorem listOut {α : Type} {R : Nat → α → Prop} : ∀ (n : Nat), (∀ i, i < n → ∃ o, R i o) → ∃ L : List α, L.length = n ∧ ∀ i o, L[i]? = some o → R i o := by
  intro n
  induction n with
  | zero => intro _; exact ⟨[], rfl, fun i o h => by simp at h⟩
  | succ n ih =>
    intro h
    obtain ⟨L, h1, h2⟩ := ih (fun i hi => h i (by omega))
    obtain ⟨o, ho⟩ := h n (by omega)
    refine ⟨L ++ [o], by simp [h1], fun i o' hi => ?_⟩
    by_cases c : i < L.length
    · rw [List.getElem?_append_left c] at hi; exact h2 i o' hi
    · have hlt := (List.getElem?_eq_some_iff.1 hi).1
      simp at hlt
      obtain rfl : i = n := by omega
      rw [List.getElem?_append_right (by omega), h1] at hi
      simp at hi
      subst hi
      exact ho
/-- The entries that come in. -/
theorem timesArg {H : Type} {enc : TypeId × Value → H} {W : World} {base : Nat} {spare : Nat → Bool} {held : Bool} {a : Option Addr} {len cap : Nat} {d : DataW H} {p : List MemPlace}
    (h : DataW.Trod enc Try.prog W base spare held 22 (.slice a len cap) d p) : ∃ T : List (Int × Int), T.length = len ∧ Pairs W a T := by
  obtain ⟨fuel, hf⟩ := h
  have h0 := timeCells hf
  obtain ⟨L, h1, h2⟩ := listOut (R := fun i (o : Int × Int) => ∃ x : Addr, a = some x ∧ W.cell? (x.add (i * 2)) = some (.int .i64 o.1) ∧ W.cell? ⟨(x.add (i * 2)).block, (x.add (i * 2)).off + 1, none⟩ = some (.int .i64 o.2)) len (fun i hi => by
    obtain ⟨x, o, q⟩ := h0 i hi
    exact ⟨o, x, q⟩)
  exact ⟨L, h1, fun i o ho => h2 i o ho⟩

/-! ### Side by side -/
/-- What is kept where nothing of its blocks turns. -/
def Keeps (A : World → (Nat → Prop) → Prop) : Prop := ∀ (w w' : World) (O O' : Nat → Prop), A w O → Fr O' w w' → (∀ i, O i → ¬ O' i) → A w' O
theorem keepsHA {α : Type} (e : α → List Value) (tk : TypeId) (s p : Nat) (L : List α) : Keeps (fun w O => HA e tk s w O p L) := fun _ _ _ _ h F hd => h.fr F hd
/-- One thing, all new since w0. -/
structure On (A : World → (Nat → Prop) → Prop) (w0 w : World) (P : Nat → Prop) : Prop where
  a : A w P
  lo : ∀ i, P i → w0.heap.size ≤ i ∧ i < w.heap.size
  gr : w0.grownBy w none
/-- Two things, all new since w0, apart. -/
structure Tw (A B : World → (Nat → Prop) → Prop) (w0 w : World) (P R : Nat → Prop) : Prop where
  a : A w P
  b : B w R
  lo : ∀ i, P i → w0.heap.size ≤ i ∧ i < w.heap.size
  lr : ∀ i, R i → w0.heap.size ≤ i ∧ i < w.heap.size
  ap : ∀ i, P i → ¬ R i
  gr : w0.grownBy w none
section
variable {A A' B B' : World → (Nat → Prop) → Prop} {w0 w w' : World} {P R : Nat → Prop}
theorem On.kept (hA : Keeps A) (h : On A w0 w P) (g : w.grownBy w' none) : On A w0 w' P :=
  ⟨hA _ _ _ (fun _ => False) h.a (Fr.grown g) (fun _ _ e => e), fun i hi => ⟨(h.lo i hi).1, Nat.lt_of_lt_of_le (h.lo i hi).2 g.size⟩, gbTrans h.gr g⟩
theorem On.turn (h : On A w0 w P) (T : A' w' (wide P w w')) (k : Fr P w w') : On A' w0 w' (wide P w w') := by
  refine ⟨T, fun i hi => ?_, Fr.since h.gr k (fun i hi => (h.lo i hi).1)⟩
  have h0 := h.gr.size
  have h1 := k.size
  rcases hi with hi | hi
  · have := h.lo i hi; omega
  · omega
/-- Another list, with a base of its own, turned: what is there stays. -/
theorem On.beside (hA : Keeps A) (h : On A w0 w P) {O : Nat → Prop} (k : Fr O w w') (ho : ∀ i, O i → w0.heap.size ≤ i ∧ ¬ P i) : On A w0 w' P :=
  ⟨hA _ _ _ _ h.a k (fun i hi e => (ho i e).2 hi), fun i hi => ⟨(h.lo i hi).1, Nat.lt_of_lt_of_le (h.lo i hi).2 k.size⟩, Fr.since h.gr k (fun i hi => (ho i hi).1)⟩
theorem Tw.kept (hA : Keeps A) (hB : Keeps B) (h : Tw A B w0 w P R) (g : w.grownBy w' none) : Tw A B w0 w' P R :=
  ⟨hA _ _ _ (fun _ => False) h.a (Fr.grown g) (fun _ _ e => e), hB _ _ _ (fun _ => False) h.b (Fr.grown g) (fun _ _ e => e), fun i hi => ⟨(h.lo i hi).1, Nat.lt_of_lt_of_le (h.lo i hi).2 g.size⟩, fun i hi => ⟨(h.lr i hi).1, Nat.lt_of_lt_of_le (h.lr i hi).2 g.size⟩, h.ap, gbTrans h.gr g⟩
theorem Tw.prog (hB : Keeps B) (h : Tw A B w0 w P R) (T : A' w' (wide P w w')) (k : Fr P w w') : Tw A' B w0 w' (wide P w w') R := by
  have h0 := h.gr.size
  have h1 := k.size
  refine ⟨T, hB _ _ _ _ h.b k (fun i hi e => h.ap i e hi), fun i hi => ?_, fun i hi => ⟨(h.lr i hi).1, Nat.lt_of_lt_of_le (h.lr i hi).2 k.size⟩, fun i hi e => ?_, Fr.since h.gr k (fun i hi => (h.lo i hi).1)⟩
  · rcases hi with hi | hi
    · have := h.lo i hi; omega
    · omega
  · rcases hi with hi | hi
    · exact h.ap i hi e
    · have := (h.lr i e).2; omega
theorem Tw.doc (hA : Keeps A) (h : Tw A B w0 w P R) (T : B' w' (wide R w w')) (k : Fr R w w') : Tw A B' w0 w' P (wide R w w') := by
  have h0 := h.gr.size
  have h1 := k.size
  refine ⟨hA _ _ _ _ h.a k (fun i hi e => h.ap i hi e), T, fun i hi => ⟨(h.lo i hi).1, Nat.lt_of_lt_of_le (h.lo i hi).2 k.size⟩, fun i hi => ?_, fun i hi e => ?_, Fr.since h.gr k (fun i hi => (h.lr i hi).1)⟩
  · rcases hi with hi | hi
    · have := h.lr i hi; omega
    · omega
  · rcases e with e | e
    · exact h.ap i hi e
    · have := (h.lo i hi).2; omega
end
/-! ### A thing and a list of the call's own -/
section
variable {α : Type} {e : α → List Value} {tk : TypeId} {s : Nat}
/-- A list, its block among O. -/
def LB (e : α → List Value) (tk : TypeId) (s : Nat) (v : Value) (D : List α) (w : World) (O : Nat → Prop) : Prop := Ls e tk s w 0 v D ∧ ∀ k, v.ownBlock = some k → O k
theorem kLB (e : α → List Value) (tk : TypeId) (s : Nat) (v : Value) (D : List α) : Keeps (LB e tk s v D) := fun _ _ _ _ h F hd => ⟨h.1.fr F (fun k hk => hd k (h.2 k hk)), h.2⟩
variable {A : World → (Nat → Prop) → Prop} {w0 w w' W : World} {P R : Nat → Prop} {D : List α}
/-- append of one element. -/
theorem Tw.app {tl : TypeId} {x0 : Option Addr} {n0 c0 : Nat} (hA : Keeps A) (h : Tw A (LB e tk s (.slice x0 n0 c0) D) w0 w P R) (hn0 : D.length = n0)
    (HR : ∀ (w : World) (B : Nat) (v : Value) (L : List α) (hown : Ls e tk s w B v L) (ty : TypeId) (ox : Option Addr) (m c : Nat) (D : List α) (hm : D.length = m) (hno : ox = none → m = 0) (hx : ∀ ad, ox = some ad → ∀ j u, (cl e D)[j]? = some u → w.cell? (ad.add j) = some u) (hn : L.length + m ≤ 100000) (hB : B ≤ w.heap.size),
      ∃ v' w', (Builtin.append_ #[tl, tl] ty #[v, .slice ox m c]).run Try.prog w = .ok v' w' ∧ Ls e tk s w' B v' (L ++ D) ∧ w.grownBy w' v.ownBlock ∧ (v'.ownBlock = v.ownBlock ∨ v'.ownBlock = some w.heap.size))
    (G : w.grownBy W none) (ad : Addr) (c : Nat) (k : α) (hx : ∀ j u, (cl e [k])[j]? = some u → W.cell? (ad.add j) = some u) (hn : n0 ≤ 20000) :
    ∃ x cap w6, (Builtin.append_ #[tl, tl] tl #[.slice x0 n0 c0, .slice (some ad) 1 c]).run Try.prog W = .ok (.slice x (n0 + 1) cap) w6 ∧ Hid (Tw A (LB e tk s (.slice x (n0 + 1) cap) (D ++ [k])) w0 w6 P (wide R w w6)) ∧ Hid (Fr R w w6) ∧ W.grownBy w6 (Value.ownBlock (.slice x0 n0 c0)) := by
  subst hn0
  obtain ⟨v', w6, hr, q1, q2, q3⟩ := HR W 0 (.slice x0 D.length c0) D (h.b.1.kept G) tl (some ad) 1 c [k] rfl (by simp) (by rintro ad' ⟨⟩; exact hx) (by omega) (Nat.zero_le _)
  obtain ⟨x, cap, rfl, _⟩ := q1.arr
  have e1 : (D ++ [k]).length = D.length + 1 := by simp
  rw [e1] at hr q1 q3
  have F : Fr R w w6 := (Fr.grown G).trans (Fr.opt q2 (fun k' hk => h.b.2 k' hk))
  refine ⟨x, cap, w6, hr, hideIt (Tw.doc (B' := LB e tk s (.slice x (D.length + 1) cap) (D ++ [k])) hA h ⟨q1, fun k' hk => ?_⟩ F), hideIt F, q2⟩
  rcases q3 with e' | e'
  · rw [e'] at hk; exact .inl (h.b.2 _ hk)
  · rw [e'] at hk; cases hk; exact .inr ⟨G.size, (q1.lt _ e').2⟩
/-- A list that nobody has yet. -/
theorem Tw.begin (h : On A w0 w P) : Tw A (LB e tk s (.slice none 0 0) []) w0 w P (fun _ => False) :=
  ⟨h.a, ⟨Ls.nil _ _ _ _ _, fun k hk => by cases hk⟩, h.lo, fun i hi => hi.elim, fun i _ hi => hi, h.gr⟩
theorem Tw.one {B : World → (Nat → Prop) → Prop} (h : Tw A B w0 w P R) : On A w0 w P := ⟨h.a, h.lo, h.gr⟩
end

/-- int(uint64(a) % m). -/
theorem modArg (a : Int) (m : Nat) (hm : 0 < m) : ∃ U y : Nat, IntKind.u64.wrap a = (U : Int) ∧ (U : Int) % (m : Int) = (y : Int) ∧ y < m := by
  have h0 : 0 ≤ IntKind.u64.wrap a := by rw [IntKind.wrap_u64]; omega
  obtain ⟨U, hU⟩ : ∃ U : Nat, IntKind.u64.wrap a = (U : Int) := ⟨(IntKind.u64.wrap a).toNat, by omega⟩
  refine ⟨U, U % m, hU, by norm_cast, Nat.mod_lt _ hm⟩

theorem kSA (p : Nat) (T : List (Int × Int)) (n : Nat) (l : Int) (F : Nat → List (Int × Int)) : Keeps (fun w O => SA w O p T n l F) := fun _ _ _ _ h F hd => h.fr F hd
/-! ### An act, in a block of its own -/
structure QBox (w : World) (x : Nat) (q : Q) : Prop where
  at0 : w.cell? ⟨x, 0, none⟩ = some (.int .i64 q.k)
  at1 : w.cell? ⟨x, 1, none⟩ = some (.int .i64 q.i)
  at2 : w.cell? ⟨x, 2, none⟩ = some (.int .i64 q.d)
  at3 : w.cell? ⟨x, 3, none⟩ = some (.int .i64 q.l)
  lt : x < w.heap.size
theorem QBox.fr {O : Nat → Prop} {w w' : World} {x : Nat} {q : Q} (h : QBox w x q) (k : Fr O w w') (ho : ¬ O x) : QBox w' x q := ⟨k.cell h.at0 ho, k.cell h.at1 ho, k.cell h.at2 ho, k.cell h.at3 ho, Nat.lt_of_lt_of_le h.lt k.size⟩
theorem QBox.kept {w w' : World} {x : Nat} {q : Q} (h : QBox w x q) (g : w.grownBy w' none) : QBox w' x q := h.fr (O := fun _ => False) (Fr.grown g) (fun e => e)
theorem qboxNew (w : World) (q : Q) : ∃ W, w.alloc (.cells #[.int .i64 q.k, .int .i64 q.i, .int .i64 q.d, .int .i64 q.l] 34) = W ∧ QBox W w.heap.size q ∧ w.grownBy W none := ⟨_, rfl, ⟨by simp, by simp, by simp, by simp, by simp⟩, gbAlloc _ _ _⟩

/-! ### To -/
theorem rowP (w : World) (o : Int × Int) : ∀ j u, (cl eP [o])[j]? = some u → (w.alloc (.cells #[.int .i64 o.1, .int .i64 o.2] 49)).cell? ((⟨w.heap.size, 0, none⟩ : Addr).add j) = some u := by
  intro j u h
  have hj : j < 2 := by have := (List.getElem?_eq_some_iff.1 h).1; rwa [cl_len encP] at this
  have : j = 0 ∨ j = 1 := by omega
  rw [Addr.add_lit]
  rcases this with rfl | rfl <;> (simp [cl] at h; subst h; simp)
set_option maxHeartbeats 2000000 in
theorem to_is (w : World) (x : Option Addr) (n cap : Nat) (T : List (Int × Int)) (h : Hid (Pairs w x T)) (hn : Hid (T.length = n)) (hb : n ≤ 1000) :
    Calls Try.prog 9 #[.slice x n cap] w fun e w' => ∃ y c, e = .returned (.slice y n c) ∧ PL w' w.heap.size (.slice y n c) T ∧ w.grownBy w' none := by
  go_enter Try.func9, Try.ntmps9
  go_wp2_with fail
  go_loopg [3, 4] (n + 1) (fun g s i wr => ∃ (c : Nat) (yy : Option Addr) (cc : Nat), c + g = n + 1 ∧ c ≤ n ∧ i = .int .i64 c ∧ s = .slice yy c cc ∧ Hid (PL wr w.heap.size (.slice yy c cc) (T.take c)) ∧ Hid (w.grownBy wr none))
  case atStart => exact ⟨0, none, 0, by omega, by omega, rfl, rfl, hideIt (Ls.nil _ _ _ _ _), hideIt (gbRefl _ _)⟩
  case round =>
    obtain ⟨c, yy, cc, hc, hcn, rfl, rfl, HL, GW⟩ := hrel
    by_cases hlt : c < n
    · have hlt' : (c : Int) < (n : Int) := by omega
      obtain ⟨⟨d, t⟩, ho⟩ : ∃ o, T[c]? = some o := ⟨_, List.getElem?_eq_getElem (by rw [hn.out]; exact hlt)⟩
      obtain ⟨a, rfl, e0, e1⟩ := (h.out.kept GW.out) c _ ho
      simp only at e0 e1
      have G0 := gbDrew (gbRefl wr none)
      have G1 := gbAllocN G0 (.cells #[.int .i64 d, .int .i64 t] 49)
      obtain ⟨v6, w6, hr, l6, g6, o6⟩ := run_append_p (wr.drew.alloc (.cells #[.int .i64 d, .int .i64 t] 49)) w.heap.size (.slice yy c cc) (T.take c) (HL.out.kept G1) 28 (some ⟨wr.heap.size, 0, none⟩) 1 1 [(d, t)] rfl (by simp) (by rintro ad ⟨⟩; exact rowP wr.drew (d, t)) (by rw [List.length_take]; omega) (Nat.le_trans GW.out.size G1.size)
      have ht : T.take c ++ [(d, t)] = T.take (c + 1) := by rw [List.take_add_one, ho]; rfl
      rw [ht] at l6
      obtain ⟨y6, c6, rfl, _⟩ := l6.arr
      have hlen : (T.take (c + 1)).length = c + 1 := by rw [List.length_take, hn.out]; omega
      rw [hlen] at l6 hr
      have L6 := hideIt l6
      have W6 : Hid (w.grownBy w6 none) := hideIt (gbNews (gbTrans (gbAny (gbTrans GW.out G1) _) g6) (fun k hk => (HL.out.lt k hk).1))
      clear l6 g6 o6 ht hlen ho
      go_upto_region 5 with fail
      go_region_law (refine step_append_run rfl (.tmp 11) (.tmp 23) rfl (.slice yy c cc) (.slice (some ⟨wr.heap.size, 0, none⟩) 1 1) (by simp [Act.eval]) (by simp [Act.eval]) (.slice y6 (c + 1) c6) w6 hr ?_)
      all_goals
        go_wp2
        go_roundg (gk - 1)
        case rel => exact ⟨c + 1, y6, c6, by omega, by omega, by go_num, by go_num, L6, W6⟩
        case measure => omega
    · have hlt' : ¬ (c : Int) < (n : Int) := by omega
      obtain rfl : c = n := by omega
      have e : T.take c = T := List.take_of_length_le (by rw [hn.out]; omega)
      rw [e] at HL
      go_wp2
      go_ret
      exact ⟨_, _, rfl, HL.out, GW.out⟩
end Go.Proofs.Ytpacgdplbddclaa
