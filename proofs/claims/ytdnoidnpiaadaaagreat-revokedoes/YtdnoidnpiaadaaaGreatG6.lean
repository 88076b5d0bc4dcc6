/-
  THE DOCUMENT'S STORE IN MEMORY (donjonref07): a list of nodes, each with a list of capabilities.
-/
import Derived.Test.YtdnoidnpiaadaaaGreatFull
import Derived.Test.YtdnoidnpiaadaaaGreatRchk
import Derived.Deep.LoopGhost
namespace Go.Proofs.YtdnoidnpiaadaaaGreat
open Go.RowKit
set_option linter.unusedVariables false
set_option maxRecDepth 10000
variable {u : Value}

/-- A node of the list: its id, its radix, the block of its slots. -/
structure RE where
  id : Int
  r : Nat
  h : Nat
abbrev rev (e : RE) : Value := .slice (some ⟨e.h, 0, none⟩) (2 ^ e.r) (2 ^ e.r)
def cells3 (l : List RE) : List Value := l.flatMap fun e => [.int .i64 e.id, .int .i64 e.r, rev e]
theorem cells3_nil : cells3 [] = [] := rfl
theorem cells3_cons (e : RE) (l : List RE) : cells3 (e :: l) = .int .i64 e.id :: .int .i64 e.r :: rev e :: cells3 l := rfl
theorem cells3_app (l k : List RE) : cells3 l ++ cells3 k = cells3 (l ++ k) := by unfold cells3; simp
theorem cells3_len (l : List RE) : (cells3 l).length = l.length * 3 := by
  induction l with
  | nil => rfl
  | cons e l ih => rw [cells3_cons]; simp [ih]; omega
theorem cells3_get (l : List RE) (i : Nat) (e : RE) (h : l[i]? = some e) : (cells3 l)[i * 3]? = some (.int .i64 e.id) ∧ (cells3 l)[i * 3 + 1]? = some (.int .i64 e.r) ∧ (cells3 l)[i * 3 + 2]? = some (rev e) := by
  induction l generalizing i with
  | nil => simp at h
  | cons q l ih =>
    rw [cells3_cons]
    cases i with
    | zero => simp at h; subst h; exact ⟨rfl, rfl, rfl⟩
    | succ i =>
      have := ih i (by simpa using h)
      rw [show (i + 1) * 3 = i * 3 + 1 + 1 + 1 by omega]
      simpa using this
theorem cells3_one (l : List RE) : ∀ u ∈ cells3 l, u.oneCell' = true := by
  intro u hu
  unfold cells3 at hu
  simp at hu
  obtain ⟨e, _, rfl | rfl | rfl⟩ := hu <;> rfl
theorem cells3_take (l : List RE) (n : Nat) : (cells3 l).take (n * 3) = cells3 (l.take n) := by
  induction l generalizing n with
  | nil => simp [cells3]
  | cons e l ih =>
    cases n with
    | zero => simp [cells3]
    | succ n =>
      rw [show (n + 1) * 3 = n * 3 + 1 + 1 + 1 by omega]
      simp only [cells3_cons, List.take_succ_cons]
      rw [ih]
theorem cells3_drop (l : List RE) (n : Nat) : (cells3 l).drop (n * 3) = cells3 (l.drop n) := by
  induction l generalizing n with
  | nil => simp [cells3]
  | cons e l ih =>
    cases n with
    | zero => simp
    | succ n =>
      rw [show (n + 1) * 3 = n * 3 + 1 + 1 + 1 by omega]
      simp only [cells3_cons, List.drop_succ_cons]
      rw [ih]

/-- A list of nodes in memory. -/
def Lst3 (w : World) (B : Nat) (v : Value) (l : List RE) : Prop := w.ownsRow B 98 3 v l.length (cells3 l)
theorem Lst3.low {w : World} {B : Nat} {v : Value} {l : List RE} (h : Lst3 w B v l) : Lst3 w 0 v l := by
  refine ⟨h.1, ?_⟩
  rcases h.2 with hn | ⟨g, cap, cur, rfl, hb, rest⟩
  · exact .inl hn
  · exact .inr ⟨g, cap, cur, rfl, Nat.zero_le _, rest⟩
theorem Lst3.fr {O : Nat → Prop} {w w' : World} {B : Nat} {v : Value} {l : List RE} (h : Lst3 w B v l) (k : Fr O w w') (ho : ∀ b, v.ownBlock = some b → ¬ O b) : Lst3 w' B v l := by
  refine ⟨h.1, ?_⟩
  rcases h.2 with hn | ⟨g, cap, cur, rfl, hb, hgg, rest⟩
  · exact .inl hn
  · exact .inr ⟨g, cap, cur, rfl, hb, (k.block g (Array.getElem?_eq_some_iff.1 hgg).1 (ho g rfl)).trans hgg, rest⟩
theorem Lst3.kept {w w' : World} {B : Nat} {v : Value} {l : List RE} (h : Lst3 w B v l) (k : w.grownBy w' none) : Lst3 w' B v l := h.fr (O := fun _ => False) (Fr.grown k) (fun _ _ e => e)
/-- What it looks like. -/
theorem Lst3.form {w : World} {B : Nat} {v : Value} {l : List RE} (h : Lst3 w B v l) : (v = .slice none 0 0 ∧ l = []) ∨ ∃ g cap, v = .slice (some ⟨g, 0, none⟩) l.length cap ∧ l.length ≤ cap ∧ B ≤ g ∧ g < w.heap.size ∧ cap ≤ 9223372036854775807 := by
  have hlt := World.ownsRow.lt h
  rcases h.2 with ⟨rfl, hn⟩ | ⟨g, cap, cur, rfl, hB, hg, hn, hm, _, _⟩
  · exact .inl ⟨rfl, List.eq_nil_of_length_eq_zero hn⟩
  · exact .inr ⟨g, cap, rfl, hn, hB, (hlt g rfl).2, by unfold maxLen at hm; omega⟩
theorem Lst3.cell {w : World} {B g n cap : Nat} {l : List RE} (h : Lst3 w B (.slice (some ⟨g, 0, none⟩) n cap) l) (j : Nat) (u : Value) (hu : (cells3 l)[j]? = some u) : w.cell? ⟨g, j, none⟩ = some u := by
  have := World.ownsRow.cells h (g := g) rfl j u hu
  rwa [Addr.add_lit, Nat.zero_add] at this
/-- An element's cells. -/
theorem Lst3.el {w : World} {B g n cap : Nat} {l : List RE} (h : Lst3 w B (.slice (some ⟨g, 0, none⟩) n cap) l) {j : Nat} {e : RE} (hj : l[j]? = some e) :
    w.cell? ⟨g, j * 3, none⟩ = some (.int .i64 e.id) ∧ w.cell? ⟨g, j * 3 + 1, none⟩ = some (.int .i64 e.r) ∧ w.cell? ⟨g, j * 3 + 2, none⟩ = some (rev e) := by
  obtain ⟨h1, h2, h3⟩ := cells3_get l j e hj
  exact ⟨h.cell _ _ h1, h.cell _ _ h2, h.cell _ _ h3⟩

/-! ### A node's slots -/
def CapsAt (w : World) (h : Nat) (d : Nd) : Prop := w.rowIs h 25 (2 ^ d.r * 6) (fun k => fld (d.f (k / 6)) (k % 6))
theorem CapsAt.lt {w : World} {h : Nat} {d : Nd} (k : CapsAt w h d) : h < w.heap.size := World.rowIs.lt k
theorem CapsAt.fr {O : Nat → Prop} {w w' : World} {h : Nat} {d : Nd} (k : CapsAt w h d) (f : Fr O w w') (ho : ¬ O h) : CapsAt w' h d := World.rowIs.of_block k (f.block h k.lt ho)
theorem CapsAt.cell {w : World} {h : Nat} {d : Nd} (k : CapsAt w h d) (i j : Nat) (hi : i < 2 ^ d.r) (hj : j < 6) : w.cell? ⟨h, i * 6 + j, none⟩ = some (fld (d.f i) j) := by
  have := World.rowIs.cell k (i := i * 6 + j) (by omega)
  rw [show (i * 6 + j) / 6 = i by omega, show (i * 6 + j) % 6 = j by omega] at this
  exact this
theorem CapsAt.six {w : World} {h : Nat} {d : Nd} (k : CapsAt w h d) (i : Nat) (hi : i < 2 ^ d.r) : Cell6 w h (i * 6) (d.f i) :=
  ⟨k.cell i 0 hi (by omega), k.cell i 1 hi (by omega), k.cell i 2 hi (by omega), k.cell i 3 hi (by omega), k.cell i 4 hi (by omega), k.cell i 5 hi (by omega), World.rowIs.frozen k⟩
theorem CapsAt.put {w W : World} {h : Nat} {d : Nd} (k : CapsAt w h d) (i : Nat) (c : C) (hW : Put6 w W h (i * 6) c) : CapsAt W h (d.set i c) ∧ w.grownBy W (some h) := by
  unfold Put6 at hW
  subst hW
  refine ⟨?_, ?_⟩
  · unfold CapsAt at *
    refine (((((((World.rowIs.set k (i * 6) (.int .i64 c.k)).set (i * 6 + 1) (.int .i64 c.o)).set (i * 6 + 2) (.int .i64 c.r)).set (i * 6 + 3) (.int .u64 c.b)).set (i * 6 + 4) (.int .u64 c.g)).set (i * 6 + 5) (.int .i64 c.n))).congr ?_
    intro q hq
    by_cases hs : i * 6 ≤ q ∧ q < i * 6 + 6
    · obtain ⟨j, hj, rfl⟩ : ∃ j, j < 6 ∧ q = i * 6 + j := ⟨q - i * 6, by omega, by omega⟩
      rw [show (i * 6 + j) / 6 = i by omega, show (i * 6 + j) % 6 = j by omega]
      have hf : (d.set i c).f i = c := by simp [Nd.set]
      rw [hf]
      have : j = 0 ∨ j = 1 ∨ j = 2 ∨ j = 3 ∨ j = 4 ∨ j = 5 := by omega
      rcases this with rfl | rfl | rfl | rfl | rfl | rfl <;> simp [fld]
    · rw [if_neg (by omega), if_neg (by omega), if_neg (by omega), if_neg (by omega), if_neg (by omega), if_neg (by omega)]
      show fld (d.f (q / 6)) (q % 6) = fld (if q / 6 = i then c else d.f (q / 6)) (q % 6)
      rw [if_neg (by omega)]
  · exact gbTrans (gbTrans (gbTrans (gbTrans (gbTrans (gbSetCell _ _ _ _) (gbSetCell _ _ _ _)) (gbSetCell _ _ _ _)) (gbSetCell _ _ _ _)) (gbSetCell _ _ _ _)) (gbSetCell _ _ _ _)

/-! ### The store -/
structure RA (u : Value) (w : World) (p : Nat) (v : Value) (l : List RE) (S : St) : Prop where
  box : w.heap[p]? = some (.cells #[v, u] 48)
  ls : Lst3 w 0 v l
  srt : l.Pairwise (fun a b => a.id < b.id)
  node : ∀ e ∈ l, ∃ d, S e.id = some d ∧ d.r = e.r ∧ CapsAt w e.h d
  gone : ∀ id, (∀ e ∈ l, e.id ≠ id) → S id = none
  hnd : l.Pairwise (fun a b => a.h ≠ b.h)

theorem RA.cell {w : World} {p : Nat} {v : Value} {l : List RE} {S : St} (h : RA u w p v l S) : w.cell? ⟨p, 0, none⟩ = some v := by simp [World.cell?, h.box]
theorem RA.plt {w : World} {p : Nat} {v : Value} {l : List RE} {S : St} (h : RA u w p v l S) : p < w.heap.size := (Array.getElem?_eq_some_iff.1 h.box).1
theorem RA.gp {w : World} {p g : Nat} {v : Value} {l : List RE} {S : St} (h : RA u w p v l S) (hg : v.ownBlock = some g) : g ≠ p := by
  rintro rfl
  rcases h.ls.2 with ⟨rfl, _⟩ | ⟨g', cap, cur, rfl, _, hgg, _⟩
  · cases hg
  · cases hg
    have := h.box
    rw [hgg] at this; cases this
theorem RA.hp {w : World} {p : Nat} {v : Value} {l : List RE} {S : St} (h : RA u w p v l S) {e : RE} (he : e ∈ l) : e.h ≠ p := by
  rintro rfl
  obtain ⟨d, _, _, ⟨c, hc, _⟩⟩ := h.node e he
  rw [h.box] at hc; cases hc
theorem RA.hg {w : World} {p g : Nat} {v : Value} {l : List RE} {S : St} (h : RA u w p v l S) (hg : v.ownBlock = some g) {e : RE} (he : e ∈ l) : e.h ≠ g := by
  rintro rfl
  obtain ⟨d, _, _, ⟨c, hc, _⟩⟩ := h.node e he
  rcases h.ls.2 with ⟨rfl, _⟩ | ⟨g', cap, cur, rfl, _, hgg, _⟩
  · cases hg
  · cases hg
    rw [hgg] at hc; cases hc
theorem RA.fr {O : Nat → Prop} {w w' : World} {p : Nat} {v : Value} {l : List RE} {S : St} (h : RA u w p v l S) (k : Fr O w w') (op : ¬ O p) (og : ∀ b, v.ownBlock = some b → ¬ O b) (oh : ∀ e ∈ l, ¬ O e.h) : RA u w' p v l S :=
  ⟨(k.block p h.plt op).trans h.box, h.ls.fr k og, h.srt, fun e he => by obtain ⟨d, h1, h2, h3⟩ := h.node e he; exact ⟨d, h1, h2, h3.fr k (oh e he)⟩, h.gone, h.hnd⟩
theorem RA.kept {w w' : World} {p : Nat} {v : Value} {l : List RE} {S : St} (h : RA u w p v l S) (k : w.grownBy w' none) : RA u w' p v l S := h.fr (O := fun _ => False) (Fr.grown k) (fun e => e) (fun _ _ e => e) (fun _ _ e => e)

theorem RA.noId {w : World} {p : Nat} {v : Value} {l : List RE} {S : St} (h : RA u w p v l S) {id : Int} (hs : S id = none) : ∀ e ∈ l, e.id ≠ id := by
  rintro e he rfl
  obtain ⟨d, h1, _⟩ := h.node e he
  rw [h1] at hs; cases hs
theorem RA.has {w : World} {p : Nat} {v : Value} {l : List RE} {S : St} (h : RA u w p v l S) {id : Int} {d : Nd} (hs : S id = some d) : ∃ (j : Nat) (e : RE), l[j]? = some e ∧ e.id = id ∧ d.r = e.r ∧ CapsAt w e.h d := by
  have : ∃ e ∈ l, e.id = id := Classical.byContradiction fun hn => by
    have := h.gone id (fun e he e2 => hn ⟨e, he, e2⟩)
    rw [this] at hs; cases hs
  obtain ⟨e, he, rfl⟩ := this
  obtain ⟨d', h1, h2, h3⟩ := h.node e he
  rw [hs] at h1; cases h1
  obtain ⟨j, hj, hje⟩ := List.mem_iff_getElem.1 he
  exact ⟨j, e, by rw [List.getElem?_eq_getElem hj, hje], rfl, h2, h3⟩
theorem RA.apart {w : World} {p : Nat} {v : Value} {l : List RE} {S : St} (h : RA u w p v l S) {i j : Nat} {a b : RE} (ha : l[i]? = some a) (hb : l[j]? = some b) (hij : i < j) : a.id < b.id ∧ a.h ≠ b.h := by
  obtain ⟨h1, rfl⟩ := List.getElem?_eq_some_iff.1 ha
  obtain ⟨h2, rfl⟩ := List.getElem?_eq_some_iff.1 hb
  exact ⟨List.pairwise_iff_getElem.1 h.srt i j h1 h2 hij, List.pairwise_iff_getElem.1 h.hnd i j h1 h2 hij⟩

/-- A store whose blocks are among O. -/
def RAt (u : Value) (w : World) (p : Nat) (O : Nat → Prop) (S : St) : Prop := ∃ v l, RA u w p v l S ∧ O p ∧ (∀ k, v.ownBlock = some k → O k) ∧ ∀ e ∈ l, O e.h
theorem RAt.fr {O O' : Nat → Prop} {w w' : World} {p : Nat} {S : St} (h : RAt u w p O S) (k : Fr O' w w') (ho : ∀ i, O i → ¬ O' i) : RAt u w' p O S := by
  obtain ⟨v, l, h1, h2, h3, h4⟩ := h
  exact ⟨v, l, h1.fr k (ho _ h2) (fun b hb => ho _ (h3 b hb)) (fun e he => ho _ (h4 e he)), h2, h3, h4⟩
theorem RAt.kept {O : Nat → Prop} {w w' : World} {p : Nat} {S : St} (h : RAt u w p O S) (k : w.grownBy w' none) : RAt u w' p O S := h.fr (O' := fun _ => False) (Fr.grown k) (fun _ _ e => e)
theorem RAt.mono {O O' : Nat → Prop} {w : World} {p : Nat} {S : St} (h : RAt u w p O S) (ho : ∀ i, O i → O' i) : RAt u w p O' S := by
  obtain ⟨v, l, h1, h2, h3, h4⟩ := h
  exact ⟨v, l, h1, ho _ h2, fun k hk => ho _ (h3 k hk), fun e he => ho _ (h4 e he)⟩
/-- One slot written over. -/
theorem RA.upd {w w' : World} {p : Nat} {v : Value} {l : List RE} {S : St} (h : RA u w p v l S) {j i : Nat} {e : RE} {d : Nd} {c : C} (hj : l[j]? = some e) (hs : S e.id = some d) (hP : Put6 w w' e.h (i * 6) c) :
    RA u w' p v l (M.upd S e.id i c) ∧ w.grownBy w' (some e.h) := by
  have he : e ∈ l := List.mem_of_getElem? hj
  obtain ⟨d', hd', hr, N⟩ := h.node e he
  rw [hs] at hd'; cases hd'
  obtain ⟨N', g⟩ := N.put i c hP
  have F : Fr (fun x => x = e.h) w w' := Fr.at g rfl
  refine ⟨⟨(F.block p h.plt (h.hp he).symm).trans h.box, h.ls.fr F (fun b hb => (h.hg hb he).symm), h.srt, ?_, ?_, h.hnd⟩, g⟩
  · intro e2 he2
    unfold M.upd
    by_cases e3 : e2.id = e.id
    · have : e2 = e := by
        obtain ⟨j2, hj2, hj2e⟩ := List.mem_iff_getElem.1 he2
        have hj2' : l[j2]? = some e2 := by rw [List.getElem?_eq_getElem hj2, hj2e]
        rcases Nat.lt_trichotomy j2 j with h1 | h1 | h1
        · have := (h.apart hj2' hj h1).1; omega
        · subst h1; rw [hj] at hj2'; cases hj2'; rfl
        · have := (h.apart hj hj2' h1).1; omega
      subst this
      rw [if_pos rfl, hs]
      exact ⟨d.set i c, by simp, hr, N'⟩
    · rw [if_neg e3]
      obtain ⟨d2, h2, hr2, N2⟩ := h.node e2 he2
      refine ⟨d2, h2, hr2, N2.fr F (fun e4 => e3 ?_)⟩
      obtain ⟨j2, hj2, hj2e⟩ := List.mem_iff_getElem.1 he2
      have hj2' : l[j2]? = some e2 := by rw [List.getElem?_eq_getElem hj2, hj2e]
      rcases Nat.lt_trichotomy j2 j with h1 | h1 | h1
      · exact absurd e4 (h.apart hj2' hj h1).2
      · subst h1; rw [hj] at hj2'; cases hj2'; rfl
      · exact absurd e4.symm (h.apart hj hj2' h1).2
  · intro id hid
    unfold M.upd
    rw [if_neg (fun e2 => hid e he e2.symm)]
    exact h.gone id hid

end Go.Proofs.YtdnoidnpiaadaaaGreat

/-
  THE DOCUMENT'S SIDE (donjonref07): at, Radix, Is.
-/
namespace Go.Proofs.YtdnoidnpiaadaaaGreat
open Go.RowKit
set_option linter.unusedVariables false
set_option maxRecDepth 10000
variable {u : Value}

set_option maxHeartbeats 1000000 in
theorem at_nil (w : World) (p : Nat) (id : Int) (hc : w.cell? ⟨p, 0, none⟩ = some (.slice none 0 0)) :
    Calls Tryz.prog 57 #[.pointer (some ⟨p, 0, none⟩), .int .i64 id] w fun e w' => e = .returned (.int .i64 (-1)) ∧ w' = w := by
  go_enter Tryz.func57, Tryz.ntmps57
  go_wp2
  refine wp_loop_rounds 1 ?_
  rw [rounds_succ]
  go_wp2
  go_ret
  exact ⟨rfl, rfl⟩

set_option maxHeartbeats 1000000 in
theorem at_not (w : World) (p g n cap : Nat) (id : Int) (hn : n ≤ 1000) (hc : w.cell? ⟨p, 0, none⟩ = some (.slice (some ⟨g, 0, none⟩) n cap)) (HX : Hid (∀ c, c < n → ∃ a : Int, w.cell? ⟨g, c * 3, none⟩ = some (.int .i64 a) ∧ (a == id) = false)) :
    Calls Tryz.prog 57 #[.pointer (some ⟨p, 0, none⟩), .int .i64 id] w fun e w' => e = .returned (.int .i64 (-1)) ∧ w' = w := by
  go_enter Tryz.func57, Tryz.ntmps57
  go_wp2
  go_loopg [5] n (fun y i wr => ∃ c : Nat, c + y = n ∧ i = .int .i64 c ∧ wr = w)
  case atStart => exact ⟨0, by omega, rfl, rfl⟩
  case round =>
    obtain ⟨c, hcn, rfl, rfl⟩ := hrel
    by_cases hlt : c < n
    · have hlt' : (c : Int) < (n : Int) := by omega
      obtain ⟨a, ha, hne⟩ := HX.out c hlt
      go_wp2
      go_roundg (gk - 1)
      case rel => exact ⟨c + 1, by omega, by go_num, rfl⟩
      case measure => omega
    · have hlt' : ¬ (c : Int) < (n : Int) := by omega
      go_wp2
      go_ret
      exact ⟨rfl, rfl⟩

set_option maxHeartbeats 1000000 in
theorem at_yes (w : World) (p g n cap j : Nat) (id : Int) (hn : n ≤ 1000) (hj : j < n) (hc : w.cell? ⟨p, 0, none⟩ = some (.slice (some ⟨g, 0, none⟩) n cap)) (HX : Hid (∀ c, c < j → ∃ a : Int, w.cell? ⟨g, c * 3, none⟩ = some (.int .i64 a) ∧ (a == id) = false)) (HJ : Hid (w.cell? ⟨g, j * 3, none⟩ = some (.int .i64 id))) :
    Calls Tryz.prog 57 #[.pointer (some ⟨p, 0, none⟩), .int .i64 id] w fun e w' => e = .returned (.int .i64 j) ∧ w' = w := by
  go_enter Tryz.func57, Tryz.ntmps57
  go_wp2
  go_loopg [5] j (fun y i wr => ∃ c : Nat, c + y = j ∧ i = .int .i64 c ∧ wr = w)
  case atStart => exact ⟨0, by omega, rfl, rfl⟩
  case round =>
    obtain ⟨c, hcn, rfl, rfl⟩ := hrel
    have hlt' : (c : Int) < (n : Int) := by omega
    by_cases hlt : c < j
    · obtain ⟨a, ha, hne⟩ := HX.out c hlt
      go_wp2
      go_roundg (gk - 1)
      case rel => exact ⟨c + 1, by omega, by go_num, rfl⟩
      case measure => omega
    · obtain rfl : c = j := by omega
      have ha := HJ.out
      go_wp2
      go_ret
      exact ⟨rfl, rfl⟩

theorem RA.len {w : World} {p : Nat} {v : Value} {l : List RE} {S : St} (h : RA u w p v l S) (G : Good S) : l.length ≤ 64 := by
  have key : ∀ (n : Nat) (k : List RE), k.Pairwise (fun a b => a.id < b.id) → (∀ e ∈ k, (n : Int) ≤ e.id ∧ e.id ≤ 63) → k.length + n ≤ 64 ∨ k = [] := by
    intro n k
    induction k generalizing n with
    | nil => intro _ _; exact .inr rfl
    | cons e k ih =>
      intro hp hb
      obtain ⟨h1, h2⟩ := List.pairwise_cons.1 hp
      have he := hb e (by simp)
      obtain ⟨m, hm⟩ : ∃ m : Nat, e.id = m := ⟨e.id.toNat, by omega⟩
      rcases ih (m + 1) h2 (fun x hx => by have := h1 x hx; have := hb x (by simp [hx]); omega) with h3 | h3
      · left; simp; omega
      · left; subst h3; simp; omega
  rcases key 0 l h.srt (fun e he => by obtain ⟨d, hd, _⟩ := h.node e he; have := G.lo _ _ hd; omega) with h1 | h1
  · omega
  · rw [h1]; simp

theorem at_none {w : World} {p : Nat} {v : Value} {l : List RE} {S : St} (h : RA u w p v l S) (G : Good S) (id : Int) (hs : S id = none) :
    Calls Tryz.prog 57 #[.pointer (some ⟨p, 0, none⟩), .int .i64 id] w fun e w' => e = .returned (.int .i64 (-1)) ∧ w' = w := by
  have hne := h.noId hs
  have hlen := h.len G
  have hc := h.cell
  have ls := h.ls
  rcases ls.form with ⟨rfl, _⟩ | ⟨g, cap, rfl, _, _, _, _⟩
  · exact at_nil w p id hc
  · refine at_not w p g l.length cap id (by omega) hc (hideIt fun c hcl => ?_)
    have hg : l[c]? = some l[c] := List.getElem?_eq_getElem hcl
    exact ⟨_, (ls.el hg).1, by simpa using hne _ (List.mem_of_getElem? hg)⟩
/-- What a node of the list is. -/
structure At (w : World) (p g n cap : Nat) (l : List RE) (j : Nat) (e : RE) : Prop where
  cell : w.cell? ⟨p, 0, none⟩ = some (.slice (some ⟨g, 0, none⟩) n cap)
  lt : j < n
  id : w.cell? ⟨g, j * 3, none⟩ = some (.int .i64 e.id)
  r : w.cell? ⟨g, j * 3 + 1, none⟩ = some (.int .i64 e.r)
  l : w.cell? ⟨g, j * 3 + 2, none⟩ = some (rev e)
theorem RA.at {w : World} {p : Nat} {v : Value} {l : List RE} {S : St} (h : RA u w p v l S) {j : Nat} {e : RE} (hj : l[j]? = some e) : ∃ g n cap, v = .slice (some ⟨g, 0, none⟩) n cap ∧ n = l.length ∧ At w p g n cap l j e := by
  have hlt : j < l.length := (List.getElem?_eq_some_iff.1 hj).1
  have hc := h.cell
  have ls := h.ls
  rcases ls.form with ⟨_, h0⟩ | ⟨g, cap, rfl, _, _, _, _⟩
  · rw [h0] at hlt; simp at hlt
  · obtain ⟨h1, h2, h3⟩ := ls.el hj
    exact ⟨g, _, cap, rfl, rfl, hc, hlt, h1, h2, h3⟩
theorem At.kept {w w' : World} {p g n cap : Nat} {l : List RE} {j : Nat} {e : RE} (h : At w p g n cap l j e) (k : w.grownBy w' none) : At w' p g n cap l j e :=
  ⟨k.cell h.cell (by simp), h.lt, k.cell h.id (by simp), k.cell h.r (by simp), k.cell h.l (by simp)⟩
theorem at_some {w : World} {p : Nat} {v : Value} {l : List RE} {S : St} (h : RA u w p v l S) (G : Good S) {j : Nat} {e : RE} (hj : l[j]? = some e) :
    Calls Tryz.prog 57 #[.pointer (some ⟨p, 0, none⟩), .int .i64 e.id] w fun x w' => x = .returned (.int .i64 j) ∧ w' = w := by
  have hlen := h.len G
  have hc := h.cell
  have ls := h.ls
  have hlt : j < l.length := (List.getElem?_eq_some_iff.1 hj).1
  rcases ls.form with ⟨_, h0⟩ | ⟨g, cap, rfl, _, _, _, _⟩
  · rw [h0] at hlt; simp at hlt
  · refine at_yes w p g l.length cap j e.id (by omega) hlt hc (hideIt fun c hcl => ?_) (hideIt (ls.el hj).1)
    have hg : l[c]? = some l[c] := List.getElem?_eq_getElem (by omega)
    exact ⟨_, (ls.el hg).1, by have := (h.apart hg hj hcl).1; simp; omega⟩

set_option maxHeartbeats 400000 in
theorem rradix_no (w : World) (p : Nat) (id : Int) (HA : Calls Tryz.prog 57 #[.pointer (some ⟨p, 0, none⟩), .int .i64 id] w fun e w' => e = .returned (.int .i64 (-1)) ∧ w' = w) :
    Calls Tryz.prog 10 #[.pointer (some ⟨p, 0, none⟩), .int .i64 id] w fun e w' => e = .returned (.int .i64 0) ∧ w' = w := by
  go_enter Tryz.func10, Tryz.ntmps10
  go_wp2_with fail
  refine HA.mono ?_
  rintro _ w1 ⟨rfl, rfl⟩
  go_wp2
  go_ret
  exact ⟨rfl, rfl⟩
set_option maxHeartbeats 400000 in
theorem rradix_yes (w : World) (p g n cap j r : Nat) (id : Int) (hj : (j : Int) < (n : Int)) (hc : w.cell? ⟨p, 0, none⟩ = some (.slice (some ⟨g, 0, none⟩) n cap)) (hr : w.cell? ⟨g, j * 3 + 1, none⟩ = some (.int .i64 r))
    (HA : Calls Tryz.prog 57 #[.pointer (some ⟨p, 0, none⟩), .int .i64 id] w fun e w' => e = .returned (.int .i64 j) ∧ w' = w) :
    Calls Tryz.prog 10 #[.pointer (some ⟨p, 0, none⟩), .int .i64 id] w fun e w' => e = .returned (.int .i64 r) ∧ w' = w := by
  go_enter Tryz.func10, Tryz.ntmps10
  go_wp2_with fail
  refine HA.mono ?_
  rintro _ w1 ⟨rfl, rfl⟩
  go_wp2
  go_ret
  exact ⟨rfl, rfl⟩
theorem rradix_is {w : World} {p : Nat} {O : Nat → Prop} {S : St} (h : RAt u w p O S) (G : Good S) (id r : Int) (hr : M.rad S id = r) :
    Calls Tryz.prog 10 #[.pointer (some ⟨p, 0, none⟩), .int .i64 id] w fun e w' => e = .returned (.int .i64 r) ∧ w.grownBy w' none := by
  subst hr
  obtain ⟨v, l, h, _⟩ := h
  unfold M.rad
  cases hs : S id with
  | none => exact (rradix_no w p id (at_none h G id hs)).mono fun e w' k => ⟨k.1, by rw [k.2]; exact gbRefl _ _⟩
  | some d =>
    obtain ⟨j, e, hj, rfl, hr, _⟩ := h.has hs
    obtain ⟨g, n, cap, rfl, rfl, A⟩ := h.at hj
    have h2 := A.r
    rw [← hr] at h2
    exact (rradix_yes w p g _ cap j d.r e.id (by have := A.lt; omega) A.cell h2 (at_some h G hj)).mono fun e w' k => ⟨k.1, by rw [k.2]; exact gbRefl _ _⟩

/-! ### Is -/
set_option maxHeartbeats 400000 in
theorem is_no (w : World) (p : Nat) (n i : Int) (HA : ∀ W, w.grownBy W none → Calls Tryz.prog 57 #[.pointer (some ⟨p, 0, none⟩), .int .i64 n] W fun e w' => e = .returned (.int .i64 (-1)) ∧ w' = W) :
    Calls Tryz.prog 99 #[.pointer (some ⟨p, 0, none⟩), sv n i] w fun e w' => e = .returned (.bool false) ∧ w.grownBy w' none := by
  go_enter Tryz.func99, Tryz.ntmps99
  go_upto_region 1 with fail
  obtain ⟨W, hW, X, g0⟩ := sboxNew w n i
  rw [hW]
  clear hW
  have x0 := X.at0
  go_wp2_with fail
  refine (HA W g0).mono ?_
  rintro _ w1 ⟨rfl, rfl⟩
  clear x0
  go_wp2
  refine wp_region_grown (by kernel_rfl) (by kernel_rfl) fun _ => ?_
  repeat (go_big_quiet_step (fail))
  refine wpQuiet_nil ?_
  rintro w2 ⟨⟨_, g2⟩, rfl⟩
  go_wp2
  go_ret
  exact ⟨rfl, gbTrans g0 g2⟩
set_option maxHeartbeats 800000 in
theorem is_yes (w : World) (p g m cap j h q : Nat) (n i : Int) (b0 b1 : Bool) (hj : (j : Int) < (m : Int)) (hb0 : decide (0 ≤ i) = b0) (hb1 : decide (i < (q : Int)) = b1) (hc : w.cell? ⟨p, 0, none⟩ = some (.slice (some ⟨g, 0, none⟩) m cap)) (hl : w.cell? ⟨g, j * 3 + 2, none⟩ = some (.slice (some ⟨h, 0, none⟩) q q))
    (HA : ∀ W, w.grownBy W none → Calls Tryz.prog 57 #[.pointer (some ⟨p, 0, none⟩), .int .i64 n] W fun e w' => e = .returned (.int .i64 j) ∧ w' = W) :
    Calls Tryz.prog 99 #[.pointer (some ⟨p, 0, none⟩), sv n i] w fun e w' => e = .returned (.bool (b0 && b1)) ∧ w.grownBy w' none := by
  cases b0 <;> cases b1
  all_goals
    go_enter Tryz.func99, Tryz.ntmps99
    go_upto_region 1 with fail
    obtain ⟨W, hW, X, g0⟩ := sboxNew w n i
    rw [hW]
    clear hW
    have x0 := X.at0
    go_wp2_with fail
    refine (HA W g0).mono ?_
    rintro _ w1 ⟨rfl, rfl⟩
    clear x0
    have x1 : ∀ y : Gr w1, y.w.cell? ⟨w.heap.size, 1, none⟩ = some (.int .i64 i) := fun y => (X.kept y.g).at1
    have c0 : ∀ y : Gr w1, y.w.cell? ⟨p, 0, none⟩ = some (.slice (some ⟨g, 0, none⟩) m cap) := fun y => y.g.cell (g0.cell hc (by simp)) (by simp)
    have c1 : ∀ y : Gr w1, y.w.cell? ⟨g, j * 3 + 2, none⟩ = some (.slice (some ⟨h, 0, none⟩) q q) := fun y => y.g.cell (g0.cell hl (by simp)) (by simp)
    go_wp2
    refine wp_region_grown (by kernel_rfl) (by kernel_rfl) fun _ => ?_
    repeat (go_big_quiet_step (fail))
    refine wpQuiet_nil ?_
    rintro w2 ⟨⟨_, g2⟩, rfl⟩
    go_wp2
    go_ret
    exact ⟨rfl, gbTrans g0 g2⟩

theorem is_is {w : World} {p : Nat} {v : Value} {l : List RE} {S : St} (h : RA u w p v l S) (G : Good S) (n i : Int) (b : Bool) (hb : M.there S n i = b) :
    Calls Tryz.prog 99 #[.pointer (some ⟨p, 0, none⟩), sv n i] w fun e w' => e = .returned (.bool b) ∧ w.grownBy w' none := by
  subst hb
  unfold M.there
  cases hs : S n with
  | none => exact is_no w p n i (fun W g => at_none (h.kept g) G n hs)
  | some d =>
    obtain ⟨j, e, hj, rfl, hr, _⟩ := h.has hs
    obtain ⟨g, m, cap, rfl, rfl, A⟩ := h.at hj
    have h2 := A.l
    unfold rev at h2
    rw [← hr] at h2
    exact is_yes w p g _ cap j e.h (2 ^ d.r) e.id i _ _ (by have := A.lt; omega) rfl rfl A.cell h2 (fun W g => at_some (h.kept g) G hj)

end Go.Proofs.YtdnoidnpiaadaaaGreat
