/-
  WHAT A ROUND OF THE LAW READS: the two pointers and the act.
-/
import Derived.Test.YtdnoidnpiaadaaaGreatSm
import Derived.Test.YtdnoidnpiaadaaaGreatGd
import Derived.Test.YtdnoidnpiaadaaaGreatG22
namespace Go.Proofs.YtdnoidnpiaadaaaGreat
set_option maxRecDepth 10000
open Go.RowKit
set_option linter.unusedVariables false

abbrev Sx (w : World) (p s t y : Nat) (x : Q) : Prop := Ptr w p 0 s ∧ Ptr w p 1 t ∧ w.cell? ⟨y, 0, none⟩ = some (.int .i64 x.k) ∧ w.cell? ⟨y, 1, none⟩ = some (.int .i64 x.a) ∧ w.cell? ⟨y, 2, none⟩ = some (.int .i64 x.a2) ∧ w.cell? ⟨y, 3, none⟩ = some (.int .i64 x.b) ∧ w.cell? ⟨y, 4, none⟩ = some (.int .i64 x.b2) ∧ w.cell? ⟨y, 5, none⟩ = some (.int .i64 x.d) ∧ w.cell? ⟨y, 6, none⟩ = some (.int .i64 x.d2) ∧
  w.cell? ⟨y, 7, none⟩ = some (.int .i64 x.c.k) ∧ w.cell? ⟨y, 8, none⟩ = some (.int .i64 x.c.o) ∧ w.cell? ⟨y, 9, none⟩ = some (.int .i64 x.c.r) ∧ w.cell? ⟨y, 10, none⟩ = some (.int .u64 x.c.b) ∧ w.cell? ⟨y, 11, none⟩ = some (.int .u64 x.c.g) ∧ w.cell? ⟨y, 12, none⟩ = some (.int .i64 x.c.n) ∧
  w.cell? ⟨y, 13, none⟩ = some (.int .i64 x.n) ∧ w.cell? ⟨y, 14, none⟩ = some (.int .i64 x.rt) ∧ w.cell? ⟨y, 15, none⟩ = some (.int .u64 x.bd) ∧ w.cell? ⟨y, 16, none⟩ = some (.int .u64 x.gd) ∧ w.cell? ⟨y, 17, none⟩ = some (.int .i64 x.bt)
theorem sx_of {w0 w : World} {P R : Nat → Prop} {p s t m q y : Nat} {S S2 : St} {f f2 : T9.Fo} {x : Q} (B : Bh w0 w P R p s t m q S f S2 f2) (X : OBox w y x) : Sx w p s t y x :=
  ⟨B.cs.c0, B.cs.c1, X.at0, X.at1, X.at2, X.at3, X.at4, X.at5, X.at6, X.at7, X.at8, X.at9, X.at10, X.at11, X.at12, X.at13, X.at14, X.at15, X.at16, X.at17⟩
theorem Bf.obox {P R P' R' : Nat → Prop} {w w' : World} {x : Nat} {q : Q} (h : Bf P R w w' P' R') (X : OBox w x q) (n : Nb w P R x) : OBox w' x q := h.fr.obox X (fun e => e.elim n.np n.nr)

theorem act_ex {w0 w : World} {P R : Nat → Prop} {p s t m q : Nat} {S : St} {f : T9.Fo} (B : Bh w0 w P R p s t m q S f S f) (I : M.Inv S f) (k a a2 b b2 d d2 ck co cr cb cg cn n rt bd gd bt : Int) (o : Op18 ⟨k, a, a2, b, b2, d, d2, ⟨ck, co, cr, cb, cg, cn⟩, n, rt, bd, gd, bt⟩) (hm : m ≤ 1000) (hl : f.len ≤ 59) :
    Calls Tryz.prog 7 #[.pointer (some ⟨p, 0, none⟩), .pointer (some ⟨q, 0, none⟩), .agg #[.int .i64 k, .int .i64 a, .int .i64 a2, .int .i64 b, .int .i64 b2, .int .i64 d, .int .i64 d2, .int .i64 ck, .int .i64 co, .int .i64 cr, .int .u64 cb, .int .u64 cg, .int .i64 cn, .int .i64 n, .int .i64 rt, .int .u64 bd, .int .u64 gd, .int .i64 bt]] w
      fun e w' => ∃ P' R' m' S' f', e = .returned (.bool true) ∧ Bh w0 w' P' R' p s t m' q S' f' S' f' ∧ M.Inv S' f' ∧ f'.len ≤ f.len + 1 ∧ m' ≤ m + 1 ∧ Bf P R w w' P' R' :=
  act_is B I ⟨k, a, a2, b, b2, d, d2, ⟨ck, co, cr, cb, cg, cn⟩, n, rt, bd, gd, bt⟩ o hm hl

abbrev Ne2 (a b : Nat) : Prop := a ≠ b ∧ b ≠ a
theorem ne2 {a b : Nat} (h : a < b) : Ne2 a b := ⟨by omega, by omega⟩
theorem iiF (w : World) {u : World} (g : (w.alloc (.cells #[.int .i64 0, .int .i64 0] 31)).drew.grownBy u none) : SBox u w.heap.size 0 0 ∧ (∀ i, u.frozen? ⟨w.heap.size, i, none⟩ = false) ∧ Ne2 w.heap.size u.heap.size := by
  have s := (SBox.made w 0 0).kept (gbDrew (gbRefl _ none))
  exact ⟨s.kept g, fun i => (gbFrozen g s.lt (by simp)).trans (by show World.frozen? (w.alloc (.cells #[.int .i64 0, .int .i64 0] 31)) _ = _; simp), ne2 (s.kept g).lt⟩
theorem iiiF (w : World) {u : World} (g : (w.alloc (.cells #[.int .i64 0, .int .i64 0, .int .i64 0, .int .u64 0, .int .u64 0, .int .i64 0] 25)).drew.grownBy u none) : Box u w.heap.size C.zero ∧ Ne2 w.heap.size u.heap.size := by
  have b := ((Box.made w C.zero).kept (gbDrew (gbRefl _ none))).kept g
  exact ⟨b, ne2 b.lt⟩
theorem ivF (w : World) {u : World} (g : ((w.alloc (.cells #[.int .i64 0, .int .i64 0] 31)).alloc (.cells #[.int .i64 0, .int .i64 0, .int .i64 0, .int .u64 0, .int .u64 0, .int .i64 0] 25)).drew.grownBy u none) : SBox u w.heap.size 0 0 ∧ (∀ i, u.frozen? ⟨w.heap.size, i, none⟩ = false) ∧ Box u (w.heap.size + 1) C.zero := by
  have b := Box.made (w.alloc (.cells #[.int .i64 0, .int .i64 0] 31)) C.zero
  rw [Deep.nblk_alloc] at b
  have s := (SBox.made w 0 0).kept (gbDrew (gbAlloc (w.alloc (.cells #[.int .i64 0, .int .i64 0] 31)) (.cells #[.int .i64 0, .int .i64 0, .int .i64 0, .int .u64 0, .int .u64 0, .int .i64 0] 25) none))
  exact ⟨s.kept g, fun i => (gbFrozen g s.lt (by simp)).trans (by show World.frozen? ((w.alloc (.cells #[.int .i64 0, .int .i64 0] 31)).alloc (.cells #[.int .i64 0, .int .i64 0, .int .i64 0, .int .u64 0, .int .u64 0, .int .i64 0] 25)) _ = _; simp), (b.kept (gbDrew (gbRefl _ none))).kept g⟩
theorem vF (w : World) {u : World} (g : ((w.alloc (.cells #[.int .i64 0, .int .i64 0, .int .i64 0, .int .u64 0, .int .u64 0, .int .i64 0] 25)).alloc (.cells #[.int .i64 0, .int .i64 0] 31)).drew.grownBy u none) : SBox u (w.heap.size + 1) 0 0 ∧ (∀ i, u.frozen? ⟨w.heap.size + 1, i, none⟩ = false) ∧ Box u w.heap.size C.zero := by
  have s := (SBox.made (w.alloc (.cells #[.int .i64 0, .int .i64 0, .int .i64 0, .int .u64 0, .int .u64 0, .int .i64 0] 25)) 0 0).kept (gbDrew (gbRefl _ none))
  rw [Deep.nblk_alloc] at s
  have b := (Box.made w C.zero).kept (gbDrew (gbAlloc (w.alloc (.cells #[.int .i64 0, .int .i64 0, .int .i64 0, .int .u64 0, .int .u64 0, .int .i64 0] 25)) (.cells #[.int .i64 0, .int .i64 0] 31) none))
  exact ⟨s.kept g, fun i => (gbFrozen g s.lt (by simp)).trans (by show World.frozen? ((w.alloc (.cells #[.int .i64 0, .int .i64 0, .int .i64 0, .int .u64 0, .int .u64 0, .int .i64 0] 25)).alloc (.cells #[.int .i64 0, .int .i64 0] 31)) _ = _; simp), b.kept g⟩
theorem six_kept {w w' : World} {x : Nat} {c : C} (h : Six w x c) (g : w.grownBy w' none) : Six w' x c := ⟨g.cell h.1 (by simp), g.cell h.2.1 (by simp), g.cell h.2.2.1 (by simp), g.cell h.2.2.2.1 (by simp), g.cell h.2.2.2.2.1 (by simp), g.cell h.2.2.2.2.2 (by simp)⟩

theorem two1 {v u : World} (G : v.grownBy u none) (N A : Int) (c : C) : ∃ W, (u.alloc (.cells #[.int .i64 N, .int .i64 A] 31)).alloc (.cells #[.int .i64 c.k, .int .i64 c.o, .int .i64 c.r, .int .u64 c.b, .int .u64 c.g, .int .i64 c.n] 25) = W ∧ SBox W u.heap.size N A ∧ Box W (u.heap.size + 1) c ∧ v.grownBy W none := by
  obtain ⟨W, hW, X, Y, g⟩ := slotBox u N A c
  exact ⟨W, hW, X, Y, gbTrans G g⟩
theorem two2 {v u : World} (G : v.grownBy u none) (N A : Int) (c : C) : ∃ W, (u.alloc (.cells #[.int .i64 c.k, .int .i64 c.o, .int .i64 c.r, .int .u64 c.b, .int .u64 c.g, .int .i64 c.n] 25)).alloc (.cells #[.int .i64 N, .int .i64 A] 31) = W ∧ SBox W (u.heap.size + 1) N A ∧ Box W u.heap.size c ∧ v.grownBy W none := by
  obtain ⟨W, hW, X, g⟩ := sboxNew (u.alloc (.cells #[.int .i64 c.k, .int .i64 c.o, .int .i64 c.r, .int .u64 c.b, .int .u64 c.g, .int .i64 c.n] 25)) N A
  rw [Deep.nblk_alloc] at X
  exact ⟨W, hW, X, (Box.made u c).kept g, gbTrans G (gbTrans (gbAlloc _ _ _) g)⟩
theorem two3 {v u : World} {n : Nat} (G : v.grownBy u none) (Z : SBox u n 0 0) (hn : v.heap.size ≤ n) (N A : Int) (c : C) : ∃ W, ((u.setCell ⟨n, 0, none⟩ (.int .i64 N)).setCell ⟨n, 1, none⟩ (.int .i64 A)).alloc (.cells #[.int .i64 c.k, .int .i64 c.o, .int .i64 c.r, .int .u64 c.b, .int .u64 c.g, .int .i64 c.n] 25) = W ∧ SBox W n N A ∧ Box W u.heap.size c ∧ v.grownBy W none := by
  obtain ⟨W, hW, X, g⟩ := sboxPut Z N A
  have hs : W.heap.size = u.heap.size := by rw [← hW]; simp [World.setCell]
  obtain ⟨W2, hW2, Y, g2⟩ := boxNew W c
  rw [hs] at Y
  exact ⟨W2, by rw [hW]; exact hW2, X.kept g2, Y, gbTrans (gbNew (gbTrans (gbAny G _) g) hn) g2⟩
theorem two4 {v u : World} {n : Nat} (G : v.grownBy u none) (Z : SBox u n 0 0) (Y : Box u (n + 1) C.zero) (hn : v.heap.size ≤ n) (N A : Int) (c : C) : ∃ W, (((((((u.setCell ⟨n, 0, none⟩ (.int .i64 N)).setCell ⟨n, 1, none⟩ (.int .i64 A)).setCell ⟨n + 1, 0, none⟩ (.int .i64 c.k)).setCell ⟨n + 1, 1, none⟩ (.int .i64 c.o)).setCell ⟨n + 1, 2, none⟩ (.int .i64 c.r)).setCell ⟨n + 1, 3, none⟩ (.int .u64 c.b)).setCell ⟨n + 1, 4, none⟩ (.int .u64 c.g)).setCell ⟨n + 1, 5, none⟩ (.int .i64 c.n) = W ∧ SBox W n N A ∧ Box W (n + 1) c ∧ v.grownBy W none := by
  obtain ⟨W, hW, X, g⟩ := sboxPut Z N A
  obtain ⟨W2, hW2, Y2, g2⟩ := (Y.keep g (by simp)).put c
  exact ⟨W2, by rw [hW]; exact hW2, X.keep g2 (by omega), Y2, gbNew (gbTrans (gbAny (gbNew (gbTrans (gbAny G _) g) hn) _) g2) (by omega)⟩
theorem two5 {v u : World} {n : Nat} (G : v.grownBy u none) (Y : Box u n C.zero) (hn : v.heap.size ≤ n) (N A : Int) (c : C) : ∃ W, (((((((u).setCell ⟨n, 0, none⟩ (.int .i64 c.k)).setCell ⟨n, 1, none⟩ (.int .i64 c.o)).setCell ⟨n, 2, none⟩ (.int .i64 c.r)).setCell ⟨n, 3, none⟩ (.int .u64 c.b)).setCell ⟨n, 4, none⟩ (.int .u64 c.g)).setCell ⟨n, 5, none⟩ (.int .i64 c.n)).alloc (.cells #[.int .i64 N, .int .i64 A] 31) = W ∧ SBox W u.heap.size N A ∧ Box W n c ∧ v.grownBy W none := by
  obtain ⟨W, hW, Y2, g⟩ := Y.put c
  have hs : W.heap.size = u.heap.size := by rw [← hW]; simp [World.setCell]
  obtain ⟨W2, hW2, X, g2⟩ := sboxNew W N A
  rw [hs] at X
  exact ⟨W2, by rw [hW]; exact hW2, X, Y2.kept g2, gbTrans (gbNew (gbTrans (gbAny G _) g) hn) g2⟩
theorem two6 {v u : World} {n : Nat} (G : v.grownBy u none) (Z : SBox u (n + 1) 0 0) (Y : Box u n C.zero) (hn : v.heap.size ≤ n) (N A : Int) (c : C) : ∃ W, (((((((u.setCell ⟨n + 1, 0, none⟩ (.int .i64 N)).setCell ⟨n + 1, 1, none⟩ (.int .i64 A)).setCell ⟨n, 0, none⟩ (.int .i64 c.k)).setCell ⟨n, 1, none⟩ (.int .i64 c.o)).setCell ⟨n, 2, none⟩ (.int .i64 c.r)).setCell ⟨n, 3, none⟩ (.int .u64 c.b)).setCell ⟨n, 4, none⟩ (.int .u64 c.g)).setCell ⟨n, 5, none⟩ (.int .i64 c.n) = W ∧ SBox W (n + 1) N A ∧ Box W n c ∧ v.grownBy W none := by
  obtain ⟨W, hW, X, g⟩ := sboxPut Z N A
  obtain ⟨W2, hW2, Y2, g2⟩ := (Y.keep g (by simp)).put c
  exact ⟨W2, by rw [hW]; exact hW2, X.keep g2 (by omega), Y2, gbNew (gbTrans (gbAny (gbNew (gbTrans (gbAny G _) g) (by omega)) _) g2) hn⟩

abbrev Sy (w : World) (p s t y : Nat) (x : Q) : Prop := (Instr.loadAt 33 (.pointer (some ⟨y, 0, none⟩))).run Tryz.prog w = .ok (.agg (qcs x).toArray) w ∧ Ptr w p 0 s ∧ Ptr w p 1 t ∧ w.cell? ⟨y, 1, none⟩ = some (.int .i64 x.a) ∧ w.cell? ⟨y, 2, none⟩ = some (.int .i64 x.a2) ∧ w.cell? ⟨y, 7, none⟩ = some (.int .i64 x.c.k) ∧ w.cell? ⟨y, 8, none⟩ = some (.int .i64 x.c.o)
theorem elOf {w : World} {x : Nat} {q : Q} (X : OBox w x q) : El18 w ⟨x, 0, none⟩ q :=
  ⟨X.at0, X.at1, X.at2, X.at3, X.at4, X.at5, X.at6, X.at7, X.at8, X.at9, X.at10, X.at11, X.at12, X.at13, X.at14, X.at15, X.at16, X.at17⟩
theorem sy_of {w0 w : World} {P R : Nat → Prop} {p s t m q y : Nat} {S S2 : St} {f f2 : T9.Fo} {x : Q} (B : Bh w0 w P R p s t m q S f S2 f2) (X : OBox w y x) : Sy w p s t y x :=
  ⟨run_load_op (elOf X), B.cs.c0, B.cs.c1, X.at1, X.at2, X.at7, X.at8⟩
end Go.Proofs.YtdnoidnpiaadaaaGreat

-- The act's load, as a law of its own, for a region by plan.
namespace Go.Proofs.YtdnoidnpiaadaaaGreat
set_option maxRecDepth 10000
open Go.RowKit
theorem sx_el {w : World} {p s t y : Nat} {x : Q} (h : Sx w p s t y x) : El18 w ⟨y, 0, none⟩ x := by
  obtain ⟨_, _, h0, h1, h2, h3, h4, h5, h6, h7, h8, h9, h10, h11, h12, h13, h14, h15, h16, h17⟩ := h
  exact ⟨h0, h1, h2, h3, h4, h5, h6, h7, h8, h9, h10, h11, h12, h13, h14, h15, h16, h17⟩
theorem exec_load_op {w : World} {o : Oper} {a : Act} {x : Operand} {y : Addr} {q : Q} (ho : o.op = .load 33 x) (hx : a.eval x = .pointer (some y)) (hl : El18 w y q) :
    (execOp a.eval o).run Tryz.prog w = .ok (.value (.agg (qcs q).toArray)) w := by
  unfold execOp
  simp only [ho, hx, Sem.run_bind, run_load_op hl, Result.andThen_ok, Sem.run_pure]
end Go.Proofs.YtdnoidnpiaadaaaGreat
