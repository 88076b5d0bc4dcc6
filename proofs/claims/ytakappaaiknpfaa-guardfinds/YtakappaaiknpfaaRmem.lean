/-
  THE DOCUMENT'S STORE IN MEMORY (donjonref07): a list of nodes, each with a list of capabilities.
-/
import Derived.Test.YtakappaaiknpfaaFull
import Derived.Deep.RegionHeld3
import Derived.Test.YtakappaaiknpfaaRchk
namespace Go.Proofs.Ytakappaaiknpfaa
open Go.RowKit
set_option linter.unusedVariables false

/-- A node of the list: its id, its radix, the block of its slots. -/
structure RE where
  id : Int
  r : Nat
  h : Nat
abbrev rev (e : RE) : Value := .slice (some ⟨e.h, 0, none⟩) (2 ^ e.r) (2 ^ e.r)
def cells3 (l : List RE) : List Value := l.flatMap fun e => [.int .i64 e.id, .int .i64 e.r, rev e]
theorem cells3_nil : cells3 [] = [] := rfl
theorem cells3_cons (e : RE) (l : List RE) : cells3 (e :: l) = .int .i64 e.id :: .int .i64 e.r :: rev e :: cells3 l := rfl
theorem cells3_app (l k : List RE) : cells3 l ++ cells3 k = cells3 (l ++ k) := by unfold cells3; simp
theorem cells3_len (l : List RE) : (cells3 l).length = l.length * 3 := by
  induction l with
  | nil => rfl
  | cons e l ih => rw [cells3_cons]; simp [ih]; omega
theorem cells3_get (l : List RE) (i : Nat) (e : RE) (h : l[i]? = some e) : (cells3 l)[i * 3]? = some (.int .i64 e.id) ∧ (cells3 l)[i * 3 + 1]? = some (.int .i64 e.r) ∧ (cells3 l)[i * 3 + 2]? = some (rev e) := by
  induction l generalizing i with
  | nil => simp at h
  | cons q l ih =>
    rw [cells3_cons]
    cases i with
    | zero => simp at h; subst h; exact ⟨rfl, rfl, rfl⟩
    | succ i =>
      have := ih i (by simpa using h)
      rw [show (i + 1) * 3 = i * 3 + 1 + 1 + 1 by omega]
      simpa using this
theorem cells3_one (l : List RE) : ∀ u ∈ cells3 l, u.oneCell' = true := by
  intro u hu
  unfold cells3 at hu
  simp at hu
  obtain ⟨e, _, rfl | rfl | rfl⟩ := hu <;> rfl
theorem cells3_take (l : List RE) (n : Nat) : (cells3 l).take (n * 3) = cells3 (l.take n) := by
  induction l generalizing n with
  | nil => simp [cells3]
  | cons e l ih =>
    cases n with
    | zero => simp [cells3]
    | succ n =>
      rw [show (n + 1) * 3 = n * 3 + 1 + 1 + 1 by omega]
      simp only [cells3_cons, List.take_succ_cons]
      rw [ih]
theorem cells3_drop (l : List RE) (n : Nat) : (cells3 l).drop (n * 3) = cells3 (l.drop n) := by
  induction l generalizing n with
  | nil => simp [cells3]
  | cons e l ih =>
    cases n with
    | zero => simp
    | succ n =>
      rw [show (n + 1) * 3 = n * 3 + 1 + 1 + 1 by omega]
      simp only [cells3_cons, List.drop_succ_cons]
      rw [ih]

/-- A list of nodes in memory. -/
def Lst3 (w : World) (B : Nat) (v : Value) (l : List RE) : Prop := w.ownsRow B 80 3 v l.length (cells3 l)
theorem Lst3.low {w : World} {B : Nat} {v : Value} {l : List RE} (h : Lst3 w B v l) : Lst3 w 0 v l := by
  refine ⟨h.1, ?_⟩
  rcases h.2 with hn | ⟨g, cap, cur, rfl, hb, rest⟩
  · exact .inl hn
  · exact .inr ⟨g, cap, cur, rfl, Nat.zero_le _, rest⟩
theorem Lst3.fr {O : Nat → Prop} {w w' : World} {B : Nat} {v : Value} {l : List RE} (h : Lst3 w B v l) (k : Fr O w w') (ho : ∀ b, v.ownBlock = some b → ¬ O b) : Lst3 w' B v l := by
  refine ⟨h.1, ?_⟩
  rcases h.2 with hn | ⟨g, cap, cur, rfl, hb, hgg, rest⟩
  · exact .inl hn
  · exact .inr ⟨g, cap, cur, rfl, hb, (k.block g (Array.getElem?_eq_some_iff.1 hgg).1 (ho g rfl)).trans hgg, rest⟩
theorem Lst3.kept {w w' : World} {B : Nat} {v : Value} {l : List RE} (h : Lst3 w B v l) (k : w.grownBy w' none) : Lst3 w' B v l := h.fr (O := fun _ => False) (Fr.grown k) (fun _ _ e => e)
/-- What it looks like. -/
theorem Lst3.form {w : World} {B : Nat} {v : Value} {l : List RE} (h : Lst3 w B v l) : (v = .slice none 0 0 ∧ l = []) ∨ ∃ g cap, v = .slice (some ⟨g, 0, none⟩) l.length cap ∧ l.length ≤ cap ∧ B ≤ g ∧ g < w.heap.size ∧ cap ≤ 9223372036854775807 := by
  have hlt := World.ownsRow.lt h
  rcases h.2 with ⟨rfl, hn⟩ | ⟨g, cap, cur, rfl, hB, hg, hn, hm, _, _⟩
  · exact .inl ⟨rfl, List.eq_nil_of_length_eq_zero hn⟩
  · exact .inr ⟨g, cap, rfl, hn, hB, (hlt g rfl).2, by unfold maxLen at hm; omega⟩
theorem Lst3.cell {w : World} {B g n cap : Nat} {l : List RE} (h : Lst3 w B (.slice (some ⟨g, 0, none⟩) n cap) l) (j : Nat) (u : Value) (hu : (cells3 l)[j]? = some u) : w.cell? ⟨g, j, none⟩ = some u := by
  have := World.ownsRow.cells h (g := g) rfl j u hu
  rwa [Addr.add_lit, Nat.zero_add] at this
/-- An element's cells. -/
theorem Lst3.el {w : World} {B g n cap : Nat} {l : List RE} (h : Lst3 w B (.slice (some ⟨g, 0, none⟩) n cap) l) {j : Nat} {e : RE} (hj : l[j]? = some e) :
    w.cell? ⟨g, j * 3, none⟩ = some (.int .i64 e.id) ∧ w.cell? ⟨g, j * 3 + 1, none⟩ = some (.int .i64 e.r) ∧ w.cell? ⟨g, j * 3 + 2, none⟩ = some (rev e) := by
  obtain ⟨h1, h2, h3⟩ := cells3_get l j e hj
  exact ⟨h.cell _ _ h1, h.cell _ _ h2, h.cell _ _ h3⟩

/-! ### A node's slots -/
def CapsAt (w : World) (h : Nat) (d : Nd) : Prop := w.rowIs h 26 (2 ^ d.r * 6) (fun k => fld (d.f (k / 6)) (k % 6))
theorem CapsAt.lt {w : World} {h : Nat} {d : Nd} (k : CapsAt w h d) : h < w.heap.size := World.rowIs.lt k
theorem CapsAt.fr {O : Nat → Prop} {w w' : World} {h : Nat} {d : Nd} (k : CapsAt w h d) (f : Fr O w w') (ho : ¬ O h) : CapsAt w' h d := World.rowIs.of_block k (f.block h k.lt ho)
theorem CapsAt.cell {w : World} {h : Nat} {d : Nd} (k : CapsAt w h d) (i j : Nat) (hi : i < 2 ^ d.r) (hj : j < 6) : w.cell? ⟨h, i * 6 + j, none⟩ = some (fld (d.f i) j) := by
  have := World.rowIs.cell k (i := i * 6 + j) (by omega)
  rw [show (i * 6 + j) / 6 = i by omega, show (i * 6 + j) % 6 = j by omega] at this
  exact this
theorem CapsAt.six {w : World} {h : Nat} {d : Nd} (k : CapsAt w h d) (i : Nat) (hi : i < 2 ^ d.r) : Cell6 w h (i * 6) (d.f i) :=
  ⟨k.cell i 0 hi (by omega), k.cell i 1 hi (by omega), k.cell i 2 hi (by omega), k.cell i 3 hi (by omega), k.cell i 4 hi (by omega), k.cell i 5 hi (by omega), World.rowIs.frozen k⟩
theorem CapsAt.put {w W : World} {h : Nat} {d : Nd} (k : CapsAt w h d) (i : Nat) (c : C) (hW : Put6 w W h (i * 6) c) : CapsAt W h (d.set i c) ∧ w.grownBy W (some h) := by
  unfold Put6 at hW
  subst hW
  refine ⟨?_, ?_⟩
  · unfold CapsAt at *
    refine (((((((World.rowIs.set k (i * 6) (.int .i64 c.k)).set (i * 6 + 1) (.int .i64 c.o)).set (i * 6 + 2) (.int .i64 c.r)).set (i * 6 + 3) (.int .u64 c.b)).set (i * 6 + 4) (.int .u64 c.g)).set (i * 6 + 5) (.int .i64 c.n))).congr ?_
    intro q hq
    by_cases hs : i * 6 ≤ q ∧ q < i * 6 + 6
    · obtain ⟨j, hj, rfl⟩ : ∃ j, j < 6 ∧ q = i * 6 + j := ⟨q - i * 6, by omega, by omega⟩
      rw [show (i * 6 + j) / 6 = i by omega, show (i * 6 + j) % 6 = j by omega]
      have hf : (d.set i c).f i = c := by simp [Nd.set]
      rw [hf]
      have : j = 0 ∨ j = 1 ∨ j = 2 ∨ j = 3 ∨ j = 4 ∨ j = 5 := by omega
      rcases this with rfl | rfl | rfl | rfl | rfl | rfl <;> simp [fld]
    · rw [if_neg (by omega), if_neg (by omega), if_neg (by omega), if_neg (by omega), if_neg (by omega), if_neg (by omega)]
      show fld (d.f (q / 6)) (q % 6) = fld (if q / 6 = i then c else d.f (q / 6)) (q % 6)
      rw [if_neg (by omega)]
  · exact gbTrans (gbTrans (gbTrans (gbTrans (gbTrans (gbSetCell _ _ _ _) (gbSetCell _ _ _ _)) (gbSetCell _ _ _ _)) (gbSetCell _ _ _ _)) (gbSetCell _ _ _ _)) (gbSetCell _ _ _ _)

/-! ### The store -/
structure RA (w : World) (p : Nat) (v : Value) (l : List RE) (S : St) : Prop where
  box : w.heap[p]? = some (.cells #[v] 56)
  ls : Lst3 w 0 v l
  srt : l.Pairwise (fun a b => a.id < b.id)
  node : ∀ e ∈ l, ∃ d, S e.id = some d ∧ d.r = e.r ∧ CapsAt w e.h d
  gone : ∀ id, (∀ e ∈ l, e.id ≠ id) → S id = none
  hnd : l.Pairwise (fun a b => a.h ≠ b.h)

theorem RA.cell {w : World} {p : Nat} {v : Value} {l : List RE} {S : St} (h : RA w p v l S) : w.cell? ⟨p, 0, none⟩ = some v := by simp [World.cell?, h.box]
theorem RA.plt {w : World} {p : Nat} {v : Value} {l : List RE} {S : St} (h : RA w p v l S) : p < w.heap.size := (Array.getElem?_eq_some_iff.1 h.box).1
theorem RA.gp {w : World} {p g : Nat} {v : Value} {l : List RE} {S : St} (h : RA w p v l S) (hg : v.ownBlock = some g) : g ≠ p := by
  rintro rfl
  rcases h.ls.2 with ⟨rfl, _⟩ | ⟨g', cap, cur, rfl, _, hgg, _⟩
  · cases hg
  · cases hg
    have := h.box
    rw [hgg] at this; cases this
theorem RA.hp {w : World} {p : Nat} {v : Value} {l : List RE} {S : St} (h : RA w p v l S) {e : RE} (he : e ∈ l) : e.h ≠ p := by
  rintro rfl
  obtain ⟨d, _, _, ⟨c, hc, _⟩⟩ := h.node e he
  rw [h.box] at hc; cases hc
theorem RA.hg {w : World} {p g : Nat} {v : Value} {l : List RE} {S : St} (h : RA w p v l S) (hg : v.ownBlock = some g) {e : RE} (he : e ∈ l) : e.h ≠ g := by
  rintro rfl
  obtain ⟨d, _, _, ⟨c, hc, _⟩⟩ := h.node e he
  rcases h.ls.2 with ⟨rfl, _⟩ | ⟨g', cap, cur, rfl, _, hgg, _⟩
  · cases hg
  · cases hg
    rw [hgg] at hc; cases hc
theorem RA.fr {O : Nat → Prop} {w w' : World} {p : Nat} {v : Value} {l : List RE} {S : St} (h : RA w p v l S) (k : Fr O w w') (op : ¬ O p) (og : ∀ b, v.ownBlock = some b → ¬ O b) (oh : ∀ e ∈ l, ¬ O e.h) : RA w' p v l S :=
  ⟨(k.block p h.plt op).trans h.box, h.ls.fr k og, h.srt, fun e he => by obtain ⟨d, h1, h2, h3⟩ := h.node e he; exact ⟨d, h1, h2, h3.fr k (oh e he)⟩, h.gone, h.hnd⟩
theorem RA.kept {w w' : World} {p : Nat} {v : Value} {l : List RE} {S : St} (h : RA w p v l S) (k : w.grownBy w' none) : RA w' p v l S := h.fr (O := fun _ => False) (Fr.grown k) (fun e => e) (fun _ _ e => e) (fun _ _ e => e)

theorem RA.noId {w : World} {p : Nat} {v : Value} {l : List RE} {S : St} (h : RA w p v l S) {id : Int} (hs : S id = none) : ∀ e ∈ l, e.id ≠ id := by
  rintro e he rfl
  obtain ⟨d, h1, _⟩ := h.node e he
  rw [h1] at hs; cases hs
theorem RA.has {w : World} {p : Nat} {v : Value} {l : List RE} {S : St} (h : RA w p v l S) {id : Int} {d : Nd} (hs : S id = some d) : ∃ (j : Nat) (e : RE), l[j]? = some e ∧ e.id = id ∧ d.r = e.r ∧ CapsAt w e.h d := by
  have : ∃ e ∈ l, e.id = id := Classical.byContradiction fun hn => by
    have := h.gone id (fun e he e2 => hn ⟨e, he, e2⟩)
    rw [this] at hs; cases hs
  obtain ⟨e, he, rfl⟩ := this
  obtain ⟨d', h1, h2, h3⟩ := h.node e he
  rw [hs] at h1; cases h1
  obtain ⟨j, hj, hje⟩ := List.mem_iff_getElem.1 he
  exact ⟨j, e, by rw [List.getElem?_eq_getElem hj, hje], rfl, h2, h3⟩
theorem RA.apart {w : World} {p : Nat} {v : Value} {l : List RE} {S : St} (h : RA w p v l S) {i j : Nat} {a b : RE} (ha : l[i]? = some a) (hb : l[j]? = some b) (hij : i < j) : a.id < b.id ∧ a.h ≠ b.h := by
  obtain ⟨h1, rfl⟩ := List.getElem?_eq_some_iff.1 ha
  obtain ⟨h2, rfl⟩ := List.getElem?_eq_some_iff.1 hb
  exact ⟨List.pairwise_iff_getElem.1 h.srt i j h1 h2 hij, List.pairwise_iff_getElem.1 h.hnd i j h1 h2 hij⟩

/-- A store whose blocks are among O. -/
def RAt (w : World) (p : Nat) (O : Nat → Prop) (S : St) : Prop := ∃ v l, RA w p v l S ∧ O p ∧ (∀ k, v.ownBlock = some k → O k) ∧ ∀ e ∈ l, O e.h
theorem RAt.fr {O O' : Nat → Prop} {w w' : World} {p : Nat} {S : St} (h : RAt w p O S) (k : Fr O' w w') (ho : ∀ i, O i → ¬ O' i) : RAt w' p O S := by
  obtain ⟨v, l, h1, h2, h3, h4⟩ := h
  exact ⟨v, l, h1.fr k (ho _ h2) (fun b hb => ho _ (h3 b hb)) (fun e he => ho _ (h4 e he)), h2, h3, h4⟩
theorem RAt.kept {O : Nat → Prop} {w w' : World} {p : Nat} {S : St} (h : RAt w p O S) (k : w.grownBy w' none) : RAt w' p O S := h.fr (O' := fun _ => False) (Fr.grown k) (fun _ _ e => e)
theorem RAt.mono {O O' : Nat → Prop} {w : World} {p : Nat} {S : St} (h : RAt w p O S) (ho : ∀ i, O i → O' i) : RAt w p O' S := by
  obtain ⟨v, l, h1, h2, h3, h4⟩ := h
  exact ⟨v, l, h1, ho _ h2, fun k hk => ho _ (h3 k hk), fun e he => ho _ (h4 e he)⟩
/-- One slot written over. -/
theorem RA.upd {w w' : World} {p : Nat} {v : Value} {l : List RE} {S : St} (h : RA w p v l S) {j i : Nat} {e : RE} {d : Nd} {c : C} (hj : l[j]? = some e) (hs : S e.id = some d) (hP : Put6 w w' e.h (i * 6) c) :
    RA w' p v l (M.upd S e.id i c) ∧ w.grownBy w' (some e.h) := by
  have he : e ∈ l := List.mem_of_getElem? hj
  obtain ⟨d', hd', hr, N⟩ := h.node e he
  rw [hs] at hd'; cases hd'
  obtain ⟨N', g⟩ := N.put i c hP
  have F : Fr (fun x => x = e.h) w w' := Fr.at g rfl
  refine ⟨⟨(F.block p h.plt (h.hp he).symm).trans h.box, h.ls.fr F (fun b hb => (h.hg hb he).symm), h.srt, ?_, ?_, h.hnd⟩, g⟩
  · intro e2 he2
    unfold M.upd
    by_cases e3 : e2.id = e.id
    · have : e2 = e := by
        obtain ⟨j2, hj2, hj2e⟩ := List.mem_iff_getElem.1 he2
        have hj2' : l[j2]? = some e2 := by rw [List.getElem?_eq_getElem hj2, hj2e]
        rcases Nat.lt_trichotomy j2 j with h1 | h1 | h1
        · have := (h.apart hj2' hj h1).1; omega
        · subst h1; rw [hj] at hj2'; cases hj2'; rfl
        · have := (h.apart hj hj2' h1).1; omega
      subst this
      rw [if_pos rfl, hs]
      exact ⟨d.set i c, by simp, hr, N'⟩
    · rw [if_neg e3]
      obtain ⟨d2, h2, hr2, N2⟩ := h.node e2 he2
      refine ⟨d2, h2, hr2, N2.fr F (fun e4 => e3 ?_)⟩
      obtain ⟨j2, hj2, hj2e⟩ := List.mem_iff_getElem.1 he2
      have hj2' : l[j2]? = some e2 := by rw [List.getElem?_eq_getElem hj2, hj2e]
      rcases Nat.lt_trichotomy j2 j with h1 | h1 | h1
      · exact absurd e4 (h.apart hj2' hj h1).2
      · subst h1; rw [hj] at hj2'; cases hj2'; rfl
      · exact absurd e4.symm (h.apart hj hj2' h1).2
  · intro id hid
    unfold M.upd
    rw [if_neg (fun e2 => hid e he e2.symm)]
    exact h.gone id hid

end Go.Proofs.Ytakappaaiknpfaa
