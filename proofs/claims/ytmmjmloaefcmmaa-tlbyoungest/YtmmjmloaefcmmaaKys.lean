/-
  LISTS OF PAGES' NAMES (donjonlaw14's key), IN MEMORY; which of the pages that were filled in are kept, in plain lists.
-/
import Derived.Test.YtmmjmloaefcmmaaFlu
namespace Go.Proofs.Ytmmjmloaefcmmaa
set_option maxRecDepth 10000
open Go.RowKit
set_option linter.unusedVariables false

/-! ### Lists of two numbers -/
def cellsL (L : List (Int × Int)) : List Value := L.flatMap fun p => [.int .i64 p.1, .int .i64 p.2]
theorem cellsL_cons (p : Int × Int) (L : List (Int × Int)) : cellsL (p :: L) = .int .i64 p.1 :: .int .i64 p.2 :: cellsL L := rfl
theorem cellsL_app (L D : List (Int × Int)) : cellsL L ++ cellsL D = cellsL (L ++ D) := by unfold cellsL; simp
theorem cellsL_len (L : List (Int × Int)) : (cellsL L).length = L.length * 2 := by
  induction L with
  | nil => rfl
  | cons p L ih => rw [cellsL_cons]; simp [ih]; omega
theorem cellsL_get (L : List (Int × Int)) (i : Nat) (p : Int × Int) (h : L[i]? = some p) : (cellsL L)[i * 2]? = some (.int .i64 p.1) ∧ (cellsL L)[i * 2 + 1]? = some (.int .i64 p.2) := by
  induction L generalizing i with
  | nil => simp at h
  | cons q L ih =>
    rw [cellsL_cons]
    cases i with
    | zero => simp at h; subst h; exact ⟨rfl, rfl⟩
    | succ i =>
      have := ih i (by simpa using h)
      rw [show (i + 1) * 2 = i * 2 + 1 + 1 by omega]
      simpa using this
theorem cellsL_one (L : List (Int × Int)) : ∀ u ∈ cellsL L, u.oneCell' = true := by
  intro u hu
  unfold cellsL at hu
  simp at hu
  obtain ⟨a, b, _, rfl | rfl⟩ := hu <;> rfl
theorem cellsL_drop : ∀ (L : List (Int × Int)) (i : Nat), cellsL (L.drop i) = (cellsL L).drop (i * 2)
  | [], i => by simp [cellsL]
  | p :: L, 0 => by simp
  | p :: L, i + 1 => by rw [List.drop_succ_cons, cellsL_cons, show (i + 1) * 2 = i * 2 + 1 + 1 by omega, List.drop_succ_cons, List.drop_succ_cons, cellsL_drop L i]

/-- A list of pages' names of the call's own. -/
def Lst (w : World) (B : Nat) (v : Value) (L : List (Int × Int)) : Prop := w.ownsRow B 72 2 v L.length (cellsL L)
theorem Lst.nil (w : World) (B : Nat) : Lst w B (.slice none 0 0) [] := World.ownsRow_nil w B 72 2
theorem Lst.kept {w w' : World} {B : Nat} {v : Value} {L : List (Int × Int)} (h : Lst w B v L) (g : w.grownBy w' none) : Lst w' B v L :=
  World.ownsRow.kept h g (by cases v.ownBlock <;> simp)
theorem Lst.lt {w : World} {B : Nat} {v : Value} {L : List (Int × Int)} (h : Lst w B v L) : ∀ k, v.ownBlock = some k → B ≤ k ∧ k < w.heap.size := World.ownsRow.lt h
theorem Lst.fr {O : Nat → Prop} {w w' : World} {B : Nat} {v : Value} {L : List (Int × Int)} (h : Lst w B v L) (F : Fr O w w') (hv : ∀ k, v.ownBlock = some k → ¬ O k) : Lst w' B v L := by
  refine ⟨h.1, ?_⟩
  have hl := h.lt
  rcases h.2 with h2 | ⟨g, cap, cur, rfl, h3, h4, h5⟩
  · exact .inl h2
  · exact .inr ⟨g, cap, cur, rfl, h3, (F.block g (hl g rfl).2 (hv g rfl)).trans h4, h5⟩
theorem Lst.base {w : World} {B B' : Nat} {v : Value} {L : List (Int × Int)} (h : Lst w B v L) (hb : B' ≤ B) : Lst w B' v L := by
  refine ⟨h.1, ?_⟩
  rcases h.2 with h2 | ⟨g, cap, cur, rfl, h3, h4, h5⟩
  · exact .inl h2
  · exact .inr ⟨g, cap, cur, rfl, Nat.le_trans hb h3, h4, h5⟩
theorem Lst.shape {w : World} {B n : Nat} {v : Value} {L : List (Int × Int)} (h : Lst w B v L) (hn : L.length = n) : ∃ x cap, v = .slice x n cap ∧ n ≤ cap ∧ cap ≤ 9223372036854775807 := by
  rcases h.2 with ⟨rfl, h0⟩ | ⟨g, cap, cur, rfl, _, _, h5, h6, _⟩
  · exact ⟨none, 0, by rw [← hn, h0], by omega, by omega⟩
  · exact ⟨_, cap, by rw [hn], by omega, by unfold maxLen at h6; omega⟩
theorem Lst.some {w : World} {B n : Nat} {v : Value} {L : List (Int × Int)} (h : Lst w B v L) (hn : L.length = n) (h0 : 0 < n) : ∃ g cap, v = .slice (.some ⟨g, 0, none⟩) n cap ∧ n ≤ cap ∧ B ≤ g ∧ g < w.heap.size ∧ cap ≤ 9223372036854775807 := by
  have hl := h.lt
  rcases h.2 with ⟨rfl, h1⟩ | ⟨g, cap, cur, rfl, h3, _, h5, h6, _⟩
  · omega
  · exact ⟨g, cap, by rw [hn], by omega, h3, (hl g rfl).2, by unfold maxLen at h6; omega⟩
theorem Lst.el {w : World} {B g n cap : Nat} {L : List (Int × Int)} (h : Lst w B (.slice (.some ⟨g, 0, none⟩) n cap) L) (hn : L.length = n) (j : Nat) (p : Int × Int) (hj : L[j]? = .some p) :
    w.cell? ⟨g, j * 2, none⟩ = .some (.int .i64 p.1) ∧ w.cell? ⟨g, j * 2 + 1, none⟩ = .some (.int .i64 p.2) := by
  subst hn
  unfold Lst at h
  have hlt : j < L.length := (List.getElem?_eq_some_iff.1 hj).1
  obtain ⟨h1, h2⟩ := cellsL_get L j p hj
  exact ⟨(World.ownsRow.cellAt h _ (by omega)).trans h1, (World.ownsRow.cellAt h _ (by omega)).trans h2⟩
theorem Lst.tail {w : World} {B g n cap : Nat} {L : List (Int × Int)} (h : Lst w B (.slice (.some ⟨g, 0, none⟩) n cap) L) (hn : L.length = n) (i : Nat) : ∀ j u, (cellsL (L.drop i))[j]? = .some u → w.cell? ((⟨g, i * 2, none⟩ : Addr).add j) = .some u := by
  intro j u hu
  rw [cellsL_drop, List.getElem?_drop] at hu
  have := World.ownsRow.cells h (g := g) rfl (i * 2 + j) u hu
  rw [Addr.add_lit] at this ⊢
  simpa using this

theorem Try.infoKey : (Try.prog.info? 72).map (fun i => (i.zero, i.size, i.bytes)) = .some (.some (.agg #[.int .i64 0, .int .i64 0]), 2, 16) := by kernel_rfl
theorem run_append_key (w : World) (B : Nat) (v : Value) (L : List (Int × Int)) (hown : Lst w B v L) (ty : TypeId) (ad : Addr) (m c : Nat) (D : List (Int × Int)) (hm : D.length = m) (hx : ∀ j u, (cellsL D)[j]? = .some u → w.cell? (ad.add j) = .some u) (hn : L.length + m ≤ 100000) (hB : B ≤ w.heap.size) :
    ∃ v' w', (Builtin.append_ #[70, 70] ty #[v, .slice (.some ad) m c]).run Try.prog w = .ok v' w' ∧ Lst w' B v' (L ++ D) ∧ w.grownBy w' v.ownBlock ∧ (v'.ownBlock = v.ownBlock ∨ v'.ownBlock = .some w.heap.size) := by
  obtain ⟨i, hi, hx0⟩ := Option.map_eq_some_iff.1 Try.infoKey
  simp only [Prod.mk.injEq] at hx0
  obtain ⟨hz0, hz1, hz2⟩ := hx0
  obtain ⟨v', w', h1, h2, h3, _, h5⟩ := run_append_own_at (P := Try.prog) w B 70 ty 72 i (.agg #[.int .i64 0, .int .i64 0]) 2 16 Try.underlying70 hi hz0 hz1 hz2 (by kernel_rfl) (by decide) v L.length (cellsL L) hown ad m c (cellsL D) (by rw [cellsL_len, hm]) hx (cellsL_one D) (by unfold maxLen; omega) (by omega) hB
  refine ⟨v', w', h1, ?_, h3, h5⟩
  unfold Lst
  rw [← cellsL_app, List.length_append, hm]
  exact h2
theorem rowKey (w : World) (a b : Int) : ∀ j u, (cellsL [(a, b)])[j]? = .some u → (w.alloc (.cells #[.int .i64 a, .int .i64 b] 72)).cell? ((⟨w.heap.size, 0, none⟩ : Addr).add j) = .some u := by
  intro j u h
  have hj : j < 2 := by have := (List.getElem?_eq_some_iff.1 h).1; rwa [cellsL_len] at this
  rw [Addr.add_lit, Nat.zero_add]
  have : j = 0 ∨ j = 1 := by omega
  rcases this with rfl | rfl <;> (simp [cellsL] at h; subst h; simp)
theorem wpList_append_key {w : World} {ops : Array Oper} {rest : List Oper} {o : Oper} {a : Act} {Q : Exit → Act → World → Prop} (hgd : o.guard = none) (s x : Operand)
    (ho : o.op = .call { callee := .builtin .append, args := #[s, x], argTypes := #[70, 70] }) (vs vx : Value) (hs : a.eval s = vs) (hx : a.eval x = vx)
    (v' : Value) (w' : World) (hr : (Builtin.append_ #[70, 70] o.type #[vs, vx]).run Try.prog w = .ok v' w') (h : wpList Try.prog ops Q rest (a.put o.dst v') w') : wpList Try.prog ops Q (o :: rest) a w := by
  refine wpList_plain hgd fun K' hK' => ?_
  unfold Oper.wp execOp
  simp only [ho, resolve, invoke, builtin, Sem.run_bind, Sem.run_pure, Result.andThen_ok, List.map_toArray, List.map_cons, List.map_nil, hs, hx, hr]
  exact hK' _ _ h
theorem gbNews {a b : World} {r : Option Nat} (h : a.grownBy b r) (hr : ∀ k, r = .some k → a.heap.size ≤ k) : a.grownBy b none :=
  ⟨h.os, h.tape, h.output, h.size, fun i hi _ => h.block i hi (fun e => by have := hr i e.symm; omega)⟩
/-- append onto a list of the call's own: what comes of it, seen from a world in which the list was not there. -/
theorem Lst.push {w0 w : World} {v : Value} {L : List (Int × Int)} (h : Lst w w0.heap.size v L) (g : w0.grownBy w none) (ad : Addr) (m c : Nat) (D : List (Int × Int)) (hm : D.length = m) (hx : ∀ j u, (cellsL D)[j]? = .some u → w.cell? (ad.add j) = .some u) (hn : L.length + m ≤ 100000) :
    ∃ x n cap w', (Builtin.append_ #[70, 70] 70 #[v, .slice (.some ad) m c]).run Try.prog w = .ok (.slice x n cap) w' ∧ Hid (Lst w' w0.heap.size (.slice x n cap) (L ++ D)) ∧ Hid (w0.grownBy w' none) := by
  obtain ⟨v', w', h1, h2, h3, h4⟩ := run_append_key w w0.heap.size v L h 70 ad m c D hm hx hn g.size
  obtain ⟨x, cap, rfl, _⟩ := h2.shape rfl
  refine ⟨x, _, cap, w', h1, hideIt h2, hideIt ?_⟩
  exact gbNews (gbTrans (gbAny g _) h3) (fun k hk => (h.lt k hk).1)

/-! ### Two names held against one another -/
theorem run_equal_key (w : World) (a0 a1 b0 b1 : Int) : (Op.equalIn 10000 72 (.agg #[.int .i64 a0, .int .i64 a1]) (.agg #[.int .i64 b0, .int .i64 b1])).run Try.prog w = .ok (M.seq a0 a1 b0 b1) w := by
  rw [run_equalIn_agg w 9999 72 _ _ (by kernel_rfl) (by kernel_rfl)]
  simp only [go_sem, Program.fieldsOf, Try.underlying72]
  by_cases h0 : a0 = b0
  · by_cases h1 : a1 = b1
    all_goals simp [M.seq, go_sem, Try.underlying3, h0, h1]
  · simp [M.seq, go_sem, Try.underlying3, h0]
theorem run_neq_key (w : World) (a0 a1 b0 b1 : Int) : (binOp .neq 72 (.agg #[.int .i64 a0, .int .i64 a1]) (.agg #[.int .i64 b0, .int .i64 b1])).run Try.prog w = .ok (.bool (!M.seq a0 a1 b0 b1)) w := by
  rw [run_neq_struct, run_equal_key]; rfl
theorem eqGuard_key : Try.prog.eqGuardType Try.prog.depth 72 = false := by kernel_rfl
/-- A name in a block of its own. -/
structure SBox (w : World) (x : Nat) (n i : Int) : Prop where
  at0 : w.cell? ⟨x, 0, none⟩ = .some (.int .i64 n)
  at1 : w.cell? ⟨x, 1, none⟩ = .some (.int .i64 i)
  lt : x < w.heap.size
theorem SBox.kept {w w' : World} {x : Nat} {n i : Int} (h : SBox w x n i) (g : w.grownBy w' none) : SBox w' x n i := ⟨g.cell h.at0 (by simp), g.cell h.at1 (by simp), Nat.lt_of_lt_of_le h.lt g.size⟩
theorem Fr.sbox {O : Nat → Prop} {w w' : World} {x : Nat} {n i : Int} (h : Fr O w w') (X : SBox w x n i) (ho : ¬ O x) : SBox w' x n i := ⟨h.cell X.at0 ho, h.cell X.at1 ho, Nat.lt_of_lt_of_le X.lt h.size⟩
theorem sboxNew (w : World) (n i : Int) : ∃ W, w.alloc (.cells #[.int .i64 n, .int .i64 i] 72) = W ∧ SBox W w.heap.size n i ∧ w.grownBy W none := ⟨_, rfl, ⟨by simp, by simp, by simp⟩, gbAlloc _ _ _⟩

/-! ### The eight youngest -/
/-- Those that are not that one. -/
def M.oth (I : List (Int × Int)) (s p : Int) : List (Int × Int) := I.filter fun x => !M.seq x.1 x.2 s p
theorem M.oth_pl (L : List K) (s p : Int) : M.oth (M.pl L) s p = M.pl (M.kd L s p) := by
  unfold M.oth M.pl M.kd
  rw [List.filter_map]
  rfl
theorem M.oth_snoc {I : List (Int × Int)} {q : Nat} {x : Int × Int} {s p : Int} (h : I[q]? = .some x) : M.oth (I.take (q + 1)) s p = M.oth (I.take q) s p ++ if M.seq x.1 x.2 s p = true then [] else [x] := by
  unfold M.oth
  rw [List.take_add_one, List.filter_append, h]
  congr 1
  cases hx : M.seq x.1 x.2 s p <;> simp [hx]
/-- What the law's own list is behind a fill, and what is kept then. -/
theorem M.young {L : List K} {s p : Int} {e : E} (g : Good L) (h : M.kfe s p e = 0) :
    (M.oth (M.pl L) s p ++ [(s, p)]).length ≤ 9 ∧ (∀ j x, (M.oth (M.pl L) s p ++ [(s, p)])[j]? = .some x → (M.kg (M.kput L s p e) x.1 x.2).2 = decide ((M.oth (M.pl L) s p ++ [(s, p)]).length - j ≤ 8)) ∧
    (8 < (M.oth (M.pl L) s p ++ [(s, p)]).length → (M.oth (M.pl L) s p ++ [(s, p)]).length = 9 ∧ (M.oth (M.pl L) s p ++ [(s, p)]).drop 1 = M.pl (M.kput L s p e)) ∧
    (¬ 8 < (M.oth (M.pl L) s p ++ [(s, p)]).length → M.oth (M.pl L) s p ++ [(s, p)] = M.pl (M.kput L s p e)) := by
  rw [M.oth_pl]
  have g1 := g.kd s p
  have g2 := g.kput h
  have hl := g1.len
  have e0 : (M.pl (M.kd L s p)).length = (M.kd L s p).length := by unfold M.pl; simp
  have e1 : (M.pl (M.kd L s p) ++ [(s, p)]).length = (M.kd L s p).length + 1 := by rw [List.length_append, e0]; rfl
  by_cases c : (M.kd L s p).length = 8
  · have e2 : M.pl (M.kput L s p e) = (M.pl (M.kd L s p) ++ [(s, p)]).drop 1 := by
      unfold M.kput M.kl
      rw [if_pos c, M.pl_app]
      cases hk : M.kd L s p with
      | nil => rw [hk] at c; simp at c
      | cons k D => rfl
    refine ⟨by omega, fun j x hx => ?_, fun _ => ⟨by omega, e2.symm⟩, fun hn => absurd (by omega) hn⟩
    rw [M.kg_in, e1, e2]
    have hnd : (M.pl (M.kd L s p) ++ [(s, p)]).Nodup := by
      rw [List.nodup_append]
      refine ⟨g1.nd, by simp, fun a ha b hb => ?_⟩
      simp only [List.mem_singleton] at hb
      subst hb
      obtain ⟨k, hk, rfl⟩ := List.mem_map.1 ha
      intro e3
      simp only [Prod.mk.injEq] at e3
      exact M.kd_not hk e3
    cases j with
    | zero =>
      have hd : decide ((M.kd L s p).length + 1 - 0 ≤ 8) = false := by simp; omega
      rw [hd, decide_eq_false_iff_not]
      generalize hI : M.pl (M.kd L s p) ++ [(s, p)] = I at hx hnd
      cases I with
      | nil => simp at hx
      | cons y I =>
        simp at hx
        subst hx
        exact (List.nodup_cons.1 hnd).1
    | succ j =>
      have hd : decide ((M.kd L s p).length + 1 - (j + 1) ≤ 8) = true := by simp; omega
      rw [hd, decide_eq_true_eq]
      refine List.mem_of_getElem? (i := j) ?_
      rw [List.getElem?_drop, Nat.add_comm]
      exact hx
  · have e2 : M.pl (M.kput L s p e) = M.pl (M.kd L s p) ++ [(s, p)] := by
      unfold M.kput M.kl
      rw [if_neg c, M.pl_app]
      rfl
    refine ⟨by omega, fun j x hx => ?_, fun hn => absurd hn (by omega), fun _ => e2.symm⟩
    rw [M.kg_in, e1, e2]
    have hd : decide ((M.kd L s p).length + 1 - j ≤ 8) = true := by simp; omega
    rw [hd, decide_eq_true_eq]
    exact List.mem_of_getElem? hx

theorem gcell {W w1 : World} (h : W.grownBy w1 none) (b o : Nat) (hb : b < W.heap.size) : w1.cell? ⟨b, o, none⟩ = W.cell? ⟨b, o, none⟩ := by
  cases e : W.cell? ⟨b, o, none⟩ with
  | some v => exact h.cell e (by simp)
  | none => unfold World.cell? at *; rw [h.block b hb (by simp)]; exact e
theorem gfroz {W w1 : World} (h : W.grownBy w1 none) (b o : Nat) (hb : b < W.heap.size) : w1.frozen? ⟨b, o, none⟩ = W.frozen? ⟨b, o, none⟩ := gbFrozen h hb (by simp)
/-- The law's own list beside the Tlb. -/
structure Ky (w0 w : World) (O : Nat → Prop) (t : Nat) (L : List K) (v : Value) (I : List (Int × Int)) : Prop where
  tb : Tp w0 w O t L
  ls : Lst w w0.heap.size v I
  no : ∀ k, v.ownBlock = .some k → ¬ O k
theorem Ky.kept {w0 w w' : World} {O : Nat → Prop} {t : Nat} {L : List K} {v : Value} {I : List (Int × Int)} (h : Ky w0 w O t L v I) (g : w.grownBy w' none) : Ky w0 w' O t L v I := ⟨h.tb.kept g, h.ls.kept g, h.no⟩
theorem Ky.call {w0 w w' : World} {O : Nat → Prop} {t : Nat} {L L' : List K} {v : Value} {I : List (Int × Int)} (h : Ky w0 w O t L v I) (T : Tp w0 w' (wide O w w') t L') (F : Fr O w w') : Ky w0 w' (wide O w w') t L' v I :=
  ⟨T, h.ls.fr F h.no, fun k hk => wideNo (h.no k hk) (h.ls.lt k hk).2⟩
/-- Another list in its place, made since w1. -/
theorem Ky.other {w0 w1 w : World} {O : Nat → Prop} {t : Nat} {L : List K} {v v' : Value} {I I' : List (Int × Int)} (h : Ky w0 w1 O t L v I) (g : w1.grownBy w none) (l : Lst w w1.heap.size v' I') : Ky w0 w O t L v' I' :=
  ⟨h.tb.kept g, l.base h.tb.gr.size, fun k hk e => by have := (l.lt k hk).1; have := (h.tb.lo k e).2; omega⟩
end Go.Proofs.Ytmmjmloaefcmmaa
