/-
  WHAT COMES IN: a list of acts (donjonlaw18's Op: three cells). Two things side by side, all new.
-/
import Derived.Test.YtenljiciiocagaaEpt
import Derived.Lib.SmallJoins
import Derived.ProofKit
import Derived.OpenShut
import Derived.Below
import Derived.Deep.Slices
namespace Go.Proofs.Ytenljiciiocagaa
set_option maxRecDepth 10000
open Go.ChangeShapes Go.WideShapes Go.ChangeAt Go.RowKit
set_option linter.unusedVariables false

theorem endWalk {P : Program} {f : FuncId} {args : Array Value} {w : World} (h : Calls P f args w fun e w' => e = .returned (.bool true) ∧ w.grownBy w' none) :
    Calls P f args w fun e w' => e = .returned (.bool true) ∧ Below w.heap.size w w' :=
  h.mono fun _ _ k => ⟨k.1, gbEnd k.2⟩

theorem add_pos (y : Addr) (j : Nat) (h : j ≠ 0) : y.add j = ⟨y.block, y.off + j, none⟩ := by unfold Addr.add; rw [if_neg h]

/-- An act. -/
structure Q where
  k : Int
  i : Int
  b : Bool
/-- An act in memory, from an address on. -/
structure El3 (w : World) (y : Addr) (q : Q) : Prop where
  at0 : w.cell? y = some (.int .i64 q.k)
  at1 : w.cell? ⟨y.block, y.off + 1, none⟩ = some (.int .i64 q.i)
  at2 : w.cell? ⟨y.block, y.off + 2, none⟩ = some (.bool q.b)
theorem El3.kept {w w' : World} {y : Addr} {q : Q} (h : El3 w y q) (g : w.grownBy w' none) : El3 w' y q :=
  ⟨g.cell h.at0 (by simp), g.cell h.at1 (by simp), g.cell h.at2 (by simp)⟩

theorem opCells {H : Type} {enc : TypeId × Value → H} {W : World} {base fuel : Nat} {spare : Nat → Bool} {held : Bool} {a : Option Addr} {len cap : Nat} {x : DataW H × List MemPlace}
    (h : DataW.trod enc Try.prog W base spare held fuel 22 [.slice a len cap] = some x) : ∀ i, i < len → ∃ x q, a = some x ∧ El3 W (x.add (i * 3)) q := by
  intro i hi
  rcases Deep.open_slice Try.underlying22 h with ⟨hcs, _⟩ | ⟨y, l, c, m, n, D, Pl, hcs, _, hl, _, hm, _, hx⟩
  · simp at hcs; omega
  · simp at hcs
    obtain ⟨rfl, rfl, rfl⟩ := hcs
    have hlm : len ≤ m := by rw [hm]; split <;> omega
    obtain ⟨cs', h1, h2⟩ := hx i (by omega)
    have ce : Try.prog.cellsOf 30 = 3 := by kernel_rfl
    rw [ce] at h1
    obtain ⟨_, hlen, hcell⟩ := World.cells?_some h1
    obtain ⟨xs, k, hk, hxy, _, hxl, hf⟩ := DataW.trod_struct Try.underlying30 h2
    have c1 : Try.prog.cellsOf 3 = 1 := by kernel_rfl
    have c2 : Try.prog.cellsOf 4 = 1 := by kernel_rfl
    match xs, hxl, cs', hlen with
    | [y0, y1, y2], _, [v0, v1, v2], _ =>
      have g0 : DataW.trod enc Try.prog W base spare held k 3 [v0] = some y0 := by have := hf 0 _ rfl; simpa [c1] using this
      have g1 : DataW.trod enc Try.prog W base spare held k 3 [v1] = some y1 := by have := hf 1 _ rfl; simpa [c1] using this
      have g2 : DataW.trod enc Try.prog W base spare held k 4 [v2] = some y2 := by have := hf 2 _ rfl; simpa [c1, c2] using this
      obtain ⟨A0, e0, _⟩ := DataW.trod_int Try.underlying3 g0
      obtain ⟨A1, e1, _⟩ := DataW.trod_int Try.underlying3 g1
      obtain ⟨A2, e2, _⟩ := DataW.trod_bool Try.underlying4 g2
      simp only [List.cons.injEq, and_true] at e0 e1 e2
      subst e0; subst e1; subst e2
      have d0 := hcell 0 (by omega)
      have d1 := hcell 1 (by omega)
      have d2 := hcell 2 (by omega)
      rw [add_pos _ _ (by decide)] at d1 d2
      have z : (y.add (i * 3)).add 0 = y.add (i * 3) := by unfold Addr.add; simp
      rw [z] at d0
      exact ⟨y, ⟨A0, A1, A2⟩, rfl, ⟨d0, d1, d2⟩⟩
/-- A list that comes in: each of its elements lies where it lies. -/
theorem opsArg {H : Type} {enc : TypeId × Value → H} {W : World} {base : Nat} {spare : Nat → Bool} {held : Bool} {a : Option Addr} {len cap : Nat} {d : DataW H} {p : List MemPlace}
    (h : DataW.Trod enc Try.prog W base spare held 22 (.slice a len cap) d p) : ∀ i, i < len → ∃ x q, a = some x ∧ El3 W (x.add (i * 3)) q := by
  obtain ⟨fuel, hf⟩ := h
  exact opCells hf
/-- The acts that come in. -/
def Acts3 (w : World) (a : Option Addr) (len : Nat) : Prop := ∀ i, i < len → ∃ x q, a = some x ∧ El3 w (x.add (i * 3)) q
theorem Acts3.kept {w w' : World} {a : Option Addr} {len : Nat} (h : Acts3 w a len) (g : w.grownBy w' none) : Acts3 w' a len := fun i hi => by
  obtain ⟨x, q, h1, h2⟩ := h i hi
  exact ⟨x, q, h1, h2.kept g⟩


/-! ### Side by side -/
/-- What is kept where nothing of its blocks turns. -/
def Keeps (A : World → (Nat → Prop) → Prop) : Prop := ∀ (w w' : World) (O O' : Nat → Prop), A w O → Fr O' w w' → (∀ i, O i → ¬ O' i) → A w' O
theorem keepsHA {α : Type} (e : α → List Value) (tk : TypeId) (s p : Nat) (L : List α) : Keeps (fun w O => HA e tk s w O p L) := fun _ _ _ _ h F hd => h.fr F hd
/-- One thing, all new since w0. -/
structure On (A : World → (Nat → Prop) → Prop) (w0 w : World) (P : Nat → Prop) : Prop where
  a : A w P
  lo : ∀ i, P i → w0.heap.size ≤ i ∧ i < w.heap.size
  gr : w0.grownBy w none
/-- Two things, all new since w0, apart. -/
structure Tw (A B : World → (Nat → Prop) → Prop) (w0 w : World) (P R : Nat → Prop) : Prop where
  a : A w P
  b : B w R
  lo : ∀ i, P i → w0.heap.size ≤ i ∧ i < w.heap.size
  lr : ∀ i, R i → w0.heap.size ≤ i ∧ i < w.heap.size
  ap : ∀ i, P i → ¬ R i
  gr : w0.grownBy w none
section
variable {A A' B B' : World → (Nat → Prop) → Prop} {w0 w w' : World} {P R : Nat → Prop}
theorem On.kept (hA : Keeps A) (h : On A w0 w P) (g : w.grownBy w' none) : On A w0 w' P :=
  ⟨hA _ _ _ (fun _ => False) h.a (Fr.grown g) (fun _ _ e => e), fun i hi => ⟨(h.lo i hi).1, Nat.lt_of_lt_of_le (h.lo i hi).2 g.size⟩, gbTrans h.gr g⟩
theorem On.turn (h : On A w0 w P) (T : A' w' (wide P w w')) (k : Fr P w w') : On A' w0 w' (wide P w w') := by
  refine ⟨T, fun i hi => ?_, Fr.since h.gr k (fun i hi => (h.lo i hi).1)⟩
  have h0 := h.gr.size
  have h1 := k.size
  rcases hi with hi | hi
  · have := h.lo i hi; omega
  · omega
/-- Another list, with a base of its own, turned: what is there stays. -/
theorem On.beside (hA : Keeps A) (h : On A w0 w P) {O : Nat → Prop} (k : Fr O w w') (ho : ∀ i, O i → w0.heap.size ≤ i ∧ ¬ P i) : On A w0 w' P :=
  ⟨hA _ _ _ _ h.a k (fun i hi e => (ho i e).2 hi), fun i hi => ⟨(h.lo i hi).1, Nat.lt_of_lt_of_le (h.lo i hi).2 k.size⟩, Fr.since h.gr k (fun i hi => (ho i hi).1)⟩
theorem Tw.kept (hA : Keeps A) (hB : Keeps B) (h : Tw A B w0 w P R) (g : w.grownBy w' none) : Tw A B w0 w' P R :=
  ⟨hA _ _ _ (fun _ => False) h.a (Fr.grown g) (fun _ _ e => e), hB _ _ _ (fun _ => False) h.b (Fr.grown g) (fun _ _ e => e), fun i hi => ⟨(h.lo i hi).1, Nat.lt_of_lt_of_le (h.lo i hi).2 g.size⟩, fun i hi => ⟨(h.lr i hi).1, Nat.lt_of_lt_of_le (h.lr i hi).2 g.size⟩, h.ap, gbTrans h.gr g⟩
theorem Tw.prog (hB : Keeps B) (h : Tw A B w0 w P R) (T : A' w' (wide P w w')) (k : Fr P w w') : Tw A' B w0 w' (wide P w w') R := by
  have h0 := h.gr.size
  have h1 := k.size
  refine ⟨T, hB _ _ _ _ h.b k (fun i hi e => h.ap i e hi), fun i hi => ?_, fun i hi => ⟨(h.lr i hi).1, Nat.lt_of_lt_of_le (h.lr i hi).2 k.size⟩, fun i hi e => ?_, Fr.since h.gr k (fun i hi => (h.lo i hi).1)⟩
  · rcases hi with hi | hi
    · have := h.lo i hi; omega
    · omega
  · rcases hi with hi | hi
    · exact h.ap i hi e
    · have := (h.lr i e).2; omega
theorem Tw.doc (hA : Keeps A) (h : Tw A B w0 w P R) (T : B' w' (wide R w w')) (k : Fr R w w') : Tw A B' w0 w' P (wide R w w') := by
  have h0 := h.gr.size
  have h1 := k.size
  refine ⟨hA _ _ _ _ h.a k (fun i hi e => h.ap i hi e), T, fun i hi => ⟨(h.lo i hi).1, Nat.lt_of_lt_of_le (h.lo i hi).2 k.size⟩, fun i hi => ?_, fun i hi e => ?_, Fr.since h.gr k (fun i hi => (h.lr i hi).1)⟩
  · rcases hi with hi | hi
    · have := h.lr i hi; omega
    · omega
  · rcases e with e | e
    · exact h.ap i hi e
    · have := (h.lo i hi).2; omega
end
theorem kPA (p : Nat) (k : Int) (L : List Int) : Keeps (fun w O => PA w O p k L) := fun _ _ _ _ h F hd => h.fr F hd
/-! ### Acts -/
abbrev eQ (q : Q) : List Value := [.int .i64 q.k, .int .i64 q.i, .bool q.b]
theorem encQ : Enc eQ 3 := ⟨by decide, fun _ => rfl, fun x u hu => by simp at hu; rcases hu with rfl | rfl | rfl <;> rfl⟩
abbrev QL (w : World) (B : Nat) (v : Value) (L : List Q) : Prop := Ls eQ 30 3 w B v L
theorem QL.at {w : World} {B g n cap : Nat} {L : List Q} (h : QL w B (.slice (some ⟨g, 0, none⟩) n cap) L) (hn : L.length = n) (j : Nat) (q : Q) (hj : L[j]? = some q) : w.cell? ⟨g, j * 3, none⟩ = some (.int .i64 q.k) ∧ w.cell? ⟨g, j * 3 + 1, none⟩ = some (.int .i64 q.i) ∧ w.cell? ⟨g, j * 3 + 2, none⟩ = some (.bool q.b) :=
  ⟨by have := h.cell encQ hn j 0 q _ hj rfl; simpa using this, h.cell encQ hn j 1 q _ hj rfl, h.cell encQ hn j 2 q _ hj rfl⟩
theorem Try.infoOp : (Try.prog.info? 30).map (fun i => (i.zero, i.size, i.bytes)) = some (some (.agg #[.int .i64 0, .int .i64 0, .bool false]), 3, 24) := by kernel_rfl
theorem run_append_q (w : World) (B : Nat) (v : Value) (L : List Q) (hown : QL w B v L) (ty : TypeId) (ox : Option Addr) (m c : Nat) (D : List Q) (hm : D.length = m) (hno : ox = none → m = 0) (hx : ∀ ad, ox = some ad → ∀ j u, (cl eQ D)[j]? = some u → w.cell? (ad.add j) = some u) (hn : L.length + m ≤ 100000) (hB : B ≤ w.heap.size) :
    ∃ v' w', (Builtin.append_ #[22, 22] ty #[v, .slice ox m c]).run Try.prog w = .ok v' w' ∧ QL w' B v' (L ++ D) ∧ w.grownBy w' v.ownBlock ∧ (v'.ownBlock = v.ownBlock ∨ v'.ownBlock = some w.heap.size) := by
  obtain ⟨i, hi, hx0⟩ := Option.map_eq_some_iff.1 Try.infoOp
  simp only [Prod.mk.injEq] at hx0
  exact run_append_l encQ Try.underlying22 hi hx0.1 hx0.2.1 hx0.2.2 (by kernel_rfl) (by decide) w B v L hown ty ox m c D hm hno hx hn hB
theorem rowQ (w : World) (q : Q) : ∀ j u, (cl eQ [q])[j]? = some u → (w.alloc (.cells #[.int .i64 q.k, .int .i64 q.i, .bool q.b] 30)).cell? ((⟨w.heap.size, 0, none⟩ : Addr).add j) = some u := by
  intro j u h
  have hj : j < 3 := by have := (List.getElem?_eq_some_iff.1 h).1; rwa [cl_len encQ] at this
  have : j = 0 ∨ j = 1 ∨ j = 2 := by omega
  rw [Addr.add_lit]
  rcases this with rfl | rfl | rfl <;> (simp [cl] at h; subst h; simp)
/-- An act, in a block of its own. -/
structure QBox (w : World) (x : Nat) (q : Q) : Prop where
  at0 : w.cell? ⟨x, 0, none⟩ = some (.int .i64 q.k)
  at1 : w.cell? ⟨x, 1, none⟩ = some (.int .i64 q.i)
  at2 : w.cell? ⟨x, 2, none⟩ = some (.bool q.b)
  lt : x < w.heap.size
theorem QBox.fr {O : Nat → Prop} {w w' : World} {x : Nat} {q : Q} (h : QBox w x q) (k : Fr O w w') (ho : ¬ O x) : QBox w' x q := ⟨k.cell h.at0 ho, k.cell h.at1 ho, k.cell h.at2 ho, Nat.lt_of_lt_of_le h.lt k.size⟩
theorem QBox.kept {w w' : World} {x : Nat} {q : Q} (h : QBox w x q) (g : w.grownBy w' none) : QBox w' x q := h.fr (O := fun _ => False) (Fr.grown g) (fun e => e)
theorem qboxNew (w : World) (q : Q) : ∃ W, w.alloc (.cells #[.int .i64 q.k, .int .i64 q.i, .bool q.b] 30) = W ∧ QBox W w.heap.size q ∧ w.grownBy W none := ⟨_, rfl, ⟨by simp, by simp, by simp, by simp⟩, gbAlloc _ _ _⟩

/-! ### A thing and a list of the call's own -/
section
variable {α : Type} {e : α → List Value} {tk : TypeId} {s : Nat}
/-- A list, its block among O. -/
def LB (e : α → List Value) (tk : TypeId) (s : Nat) (v : Value) (D : List α) (w : World) (O : Nat → Prop) : Prop := Ls e tk s w 0 v D ∧ ∀ k, v.ownBlock = some k → O k
theorem kLB (e : α → List Value) (tk : TypeId) (s : Nat) (v : Value) (D : List α) : Keeps (LB e tk s v D) := fun _ _ _ _ h F hd => ⟨h.1.fr F (fun k hk => hd k (h.2 k hk)), h.2⟩
variable {A : World → (Nat → Prop) → Prop} {w0 w w' W : World} {P R : Nat → Prop} {D : List α}
/-- append of one element. -/
theorem Tw.app {tl : TypeId} {x0 : Option Addr} {n0 c0 : Nat} (hA : Keeps A) (h : Tw A (LB e tk s (.slice x0 n0 c0) D) w0 w P R) (hn0 : D.length = n0)
    (HR : ∀ (w : World) (B : Nat) (v : Value) (L : List α) (hown : Ls e tk s w B v L) (ty : TypeId) (ox : Option Addr) (m c : Nat) (D : List α) (hm : D.length = m) (hno : ox = none → m = 0) (hx : ∀ ad, ox = some ad → ∀ j u, (cl e D)[j]? = some u → w.cell? (ad.add j) = some u) (hn : L.length + m ≤ 100000) (hB : B ≤ w.heap.size),
      ∃ v' w', (Builtin.append_ #[tl, tl] ty #[v, .slice ox m c]).run Try.prog w = .ok v' w' ∧ Ls e tk s w' B v' (L ++ D) ∧ w.grownBy w' v.ownBlock ∧ (v'.ownBlock = v.ownBlock ∨ v'.ownBlock = some w.heap.size))
    (G : w.grownBy W none) (ad : Addr) (c : Nat) (k : α) (hx : ∀ j u, (cl e [k])[j]? = some u → W.cell? (ad.add j) = some u) (hn : n0 ≤ 1000) :
    ∃ x cap w6, (Builtin.append_ #[tl, tl] tl #[.slice x0 n0 c0, .slice (some ad) 1 c]).run Try.prog W = .ok (.slice x (n0 + 1) cap) w6 ∧ Hid (Tw A (LB e tk s (.slice x (n0 + 1) cap) (D ++ [k])) w0 w6 P (wide R w w6)) ∧ Hid (Fr R w w6) ∧ W.grownBy w6 (Value.ownBlock (.slice x0 n0 c0)) := by
  subst hn0
  obtain ⟨v', w6, hr, q1, q2, q3⟩ := HR W 0 (.slice x0 D.length c0) D (h.b.1.kept G) tl (some ad) 1 c [k] rfl (by simp) (by rintro ad' ⟨⟩; exact hx) (by omega) (Nat.zero_le _)
  obtain ⟨x, cap, rfl, _⟩ := q1.arr
  have e1 : (D ++ [k]).length = D.length + 1 := by simp
  rw [e1] at hr q1 q3
  have F : Fr R w w6 := (Fr.grown G).trans (Fr.opt q2 (fun k' hk => h.b.2 k' hk))
  refine ⟨x, cap, w6, hr, hideIt (Tw.doc (B' := LB e tk s (.slice x (D.length + 1) cap) (D ++ [k])) hA h ⟨q1, fun k' hk => ?_⟩ F), hideIt F, q2⟩
  rcases q3 with e' | e'
  · rw [e'] at hk; exact .inl (h.b.2 _ hk)
  · rw [e'] at hk; cases hk; exact .inr ⟨G.size, (q1.lt _ e').2⟩
/-- A list that nobody has yet. -/
theorem Tw.begin (h : On A w0 w P) : Tw A (LB e tk s (.slice none 0 0) []) w0 w P (fun _ => False) :=
  ⟨h.a, ⟨Ls.nil _ _ _ _ _, fun k hk => by cases hk⟩, h.lo, fun i hi => hi.elim, fun i _ hi => hi, h.gr⟩
theorem Tw.one {B : World → (Nat → Prop) → Prop} (h : Tw A B w0 w P R) : On A w0 w P := ⟨h.a, h.lo, h.gr⟩
end

/-- int(uint64(a) % m). -/
theorem modArg (a : Int) (m : Nat) (hm : 0 < m) : ∃ U y : Nat, IntKind.u64.wrap a = (U : Int) ∧ (U : Int) % (m : Int) = (y : Int) ∧ y < m := by
  have h0 : 0 ≤ IntKind.u64.wrap a := by rw [IntKind.wrap_u64]; omega
  obtain ⟨U, hU⟩ : ∃ U : Nat, IntKind.u64.wrap a = (U : Int) := ⟨(IntKind.u64.wrap a).toNat, by omega⟩
  refine ⟨U, U % m, hU, by norm_cast, Nat.mod_lt _ hm⟩
end Go.Proofs.Ytenljiciiocagaa
