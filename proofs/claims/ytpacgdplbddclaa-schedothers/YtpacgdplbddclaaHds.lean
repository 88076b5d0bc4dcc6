/-
  A BLOCK THAT HAS A LIST in its one cell; who owns which blocks; two of them side by side. isID, isLevel.
-/
import Derived.Test.YtpacgdplbddclaaDel
namespace Go.Proofs.Ytpacgdplbddclaa
set_option maxRecDepth 10000
open Go.RowKit
set_option linter.unusedVariables false

section
variable {α : Type} {e : α → List Value} {tk : TypeId} {s : Nat}
/-- A list of L lies at p's one cell; p and the list's block are among O. -/
structure HA (e : α → List Value) (tk : TypeId) (s : Nat) (w : World) (O : Nat → Prop) (p : Nat) (L : List α) : Prop where
  ex : ∃ v, w.cell? ⟨p, 0, none⟩ = some v ∧ Ls e tk s w 0 v L ∧ ∀ k, v.ownBlock = some k → O k ∧ k ≠ p
  fz : ∀ i, w.frozen? ⟨p, i, none⟩ = false
  lt : p < w.heap.size
  op : O p
variable {w w' : World} {O : Nat → Prop} {p : Nat} {L : List α}
theorem HA.fr {O' : Nat → Prop} (h : HA e tk s w O p L) (F : Fr O' w w') (hd : ∀ i, O i → ¬ O' i) : HA e tk s w' O p L := by
  obtain ⟨v, h1, h2, h3⟩ := h.ex
  exact ⟨⟨v, F.cell h1 (hd p h.op), h2.fr F (fun k hk => hd k (h3 k hk).1), h3⟩, fun i => (F.frozen h.lt (hd p h.op)).trans (h.fz i), Nat.lt_of_lt_of_le h.lt F.size, h.op⟩
theorem HA.kept (h : HA e tk s w O p L) (g : w.grownBy w' none) : HA e tk s w' O p L := h.fr (O' := fun _ => False) (Fr.grown g) (fun _ _ e => e)
theorem HA.mono {O' : Nat → Prop} (h : HA e tk s w O p L) (hO : ∀ i, O i → O' i) : HA e tk s w O' p L := by
  obtain ⟨v, h1, h2, h3⟩ := h.ex
  exact ⟨⟨v, h1, h2, fun k hk => ⟨hO k (h3 k hk).1, (h3 k hk).2⟩⟩, h.fz, h.lt, hO p h.op⟩
theorem HA.wider (h : HA e tk s w O p L) (w1 w2 : World) : HA e tk s w (wide O w1 w2) p L := h.mono fun i hi => .inl hi
/-- A new list is stored there. -/
theorem HA.store {L' : List α} {v' : Value} (h : HA e tk s w O p L) (F : Fr (fun k => O k ∧ k ≠ p) w w') (l6 : Ls e tk s w' 0 v' L') (hv : ∀ k, v'.ownBlock = some k → (O k ∨ w.heap.size ≤ k) ∧ k ≠ p) :
    HA e tk s (w'.setCell ⟨p, 0, none⟩ v') (wide O w (w'.setCell ⟨p, 0, none⟩ v')) p L' ∧ Fr O w (w'.setCell ⟨p, 0, none⟩ v') := by
  obtain ⟨v, h1, h2, h3⟩ := h.ex
  have G := gbSetCell w' p 0 v'
  have hp : ¬ (O p ∧ p ≠ p) := fun e => e.2 rfl
  have c1 := F.cell h1 hp
  have l7 : Ls e tk s (w'.setCell ⟨p, 0, none⟩ v') 0 v' L' := l6.keep G (fun k hk e => (hv k hk).2 (by cases e; rfl))
  refine ⟨⟨⟨v', World.cell?_setCell_same _ _ _ c1, l7, fun k hk => ⟨?_, (hv k hk).2⟩⟩, fun i => ?_, Nat.lt_of_lt_of_le h.lt (Nat.le_trans F.size G.size), .inl h.op⟩, (F.mono fun i _ hi => hi.1).trans (Fr.at G h.op)⟩
  · rcases (hv k hk).1 with e | e
    · exact .inl e
    · exact .inr ⟨e, (l7.lt k hk).2⟩
  · rw [World.frozen?_setCell]
    exact (F.frozen h.lt hp).trans (h.fz i)
/-- What the walk wants of it. -/
theorem HA.see (h : HA e tk s w O p L) : ∃ x c, w.cell? ⟨p, 0, none⟩ = some (.slice x L.length c) ∧ L.length ≤ c ∧ c ≤ 9223372036854775807 ∧ Ls e tk s w 0 (.slice x L.length c) L ∧ ∀ k, Value.ownBlock (.slice x L.length c) = some k → O k ∧ k ≠ p := by
  obtain ⟨v, h1, h2, h3⟩ := h.ex
  obtain ⟨x, c, rfl, h4, h5, _⟩ := h2.arr
  exact ⟨x, c, h1, h4, h5, h2, h3⟩
/-- append onto the list that lies there, and the store of what comes of it. -/
theorem HA.push {tl : TypeId} {W : World} (h : HA e tk s w O p L) (n0 : Nat) (hn0 : L.length = n0)
    (HR : ∀ (w : World) (B : Nat) (v : Value) (L : List α) (hown : Ls e tk s w B v L) (ty : TypeId) (ox : Option Addr) (m c : Nat) (D : List α) (hm : D.length = m) (hno : ox = none → m = 0) (hx : ∀ ad, ox = some ad → ∀ j u, (cl e D)[j]? = some u → w.cell? (ad.add j) = some u) (hn : L.length + m ≤ 100000) (hB : B ≤ w.heap.size),
      ∃ v' w', (Builtin.append_ #[tl, tl] ty #[v, .slice ox m c]).run Try.prog w = .ok v' w' ∧ Ls e tk s w' B v' (L ++ D) ∧ w.grownBy w' v.ownBlock ∧ (v'.ownBlock = v.ownBlock ∨ v'.ownBlock = some w.heap.size))
    (G : w.grownBy W none) (ad : Addr) (c : Nat) (k : α) (hx : ∀ j u, (cl e [k])[j]? = some u → W.cell? (ad.add j) = some u) (hn : n0 ≤ 1000) :
    ∃ x0 c0 x n cap w6, w.cell? ⟨p, 0, none⟩ = some (.slice x0 n0 c0) ∧ (Builtin.append_ #[tl, tl] tl #[.slice x0 n0 c0, .slice (some ad) 1 c]).run Try.prog W = .ok (.slice x n cap) w6 ∧
      w6.cell? ⟨p, 0, none⟩ = some (.slice x0 n0 c0) ∧ w6.frozen? ⟨p, 0, none⟩ = false ∧ Hid (HA e tk s (w6.setCell ⟨p, 0, none⟩ (.slice x n cap)) (wide O w (w6.setCell ⟨p, 0, none⟩ (.slice x n cap))) p (L ++ [k]) ∧ Fr O w (w6.setCell ⟨p, 0, none⟩ (.slice x n cap))) := by
  subst hn0
  obtain ⟨x0, c0, h1, _, _, h2, h3⟩ := h.see
  obtain ⟨v', w6, hr, q1, q2, q3⟩ := HR W 0 (.slice x0 L.length c0) L (h2.kept G) tl (some ad) 1 c [k] rfl (by simp) (by rintro ad' ⟨⟩; exact hx) (by omega) (Nat.zero_le _)
  obtain ⟨x, cap, rfl, _⟩ := q1.arr
  have F : Fr (fun k => O k ∧ k ≠ p) w w6 := (Fr.grown G).trans (Fr.opt q2 h3)
  have hp : ¬ (O p ∧ p ≠ p) := fun e => e.2 rfl
  have hv : ∀ k', Value.ownBlock (.slice x (L ++ [k]).length cap) = some k' → (O k' ∨ w.heap.size ≤ k') ∧ k' ≠ p := by
    intro k' hk
    rcases q3 with e' | e'
    · rw [e'] at hk; exact ⟨.inl (h3 _ hk).1, (h3 _ hk).2⟩
    · rw [e'] at hk; cases hk; have := G.size; have := h.lt; exact ⟨.inr (by omega), by omega⟩
  exact ⟨x0, c0, x, _, cap, w6, h1, hr, F.cell h1 hp, (F.frozen h.lt hp).trans (h.fz 0), hideIt (h.store F q1 hv)⟩
end

/-! ### isID, isLevel -/
set_option maxHeartbeats 400000 in
theorem isID_yes (a : Int) (w : World) (h0 : 0 ≤ a) (h1 : a < 64) : Calls Try.prog 40 #[.int .i64 a] w fun e w' => e = .returned (.bool true) ∧ w' = w := by
  go_enter Try.func40, Try.ntmps40
  go_wp2
  go_ret
  exact ⟨rfl, rfl⟩
set_option maxHeartbeats 400000 in
theorem isID_no (a : Int) (w : World) (h : ¬ (0 ≤ a ∧ a < 64)) : Calls Try.prog 40 #[.int .i64 a] w fun e w' => e = .returned (.bool false) ∧ w' = w := by
  by_cases h0 : 0 ≤ a
  · have h1 : ¬ a < 64 := fun e => h ⟨h0, e⟩
    clear h
    go_enter Try.func40, Try.ntmps40
    go_wp2
    go_ret
    exact ⟨rfl, rfl⟩
  · clear h
    go_enter Try.func40, Try.ntmps40
    go_wp2
    go_ret
    exact ⟨rfl, rfl⟩
set_option maxHeartbeats 400000 in
theorem isLevel_yes (a : Int) (w : World) (h0 : 0 ≤ a) (h1 : a < 8) : Calls Try.prog 41 #[.int .i64 a] w fun e w' => e = .returned (.bool true) ∧ w' = w := by
  go_enter Try.func41, Try.ntmps41
  go_wp2
  go_ret
  exact ⟨rfl, rfl⟩
set_option maxHeartbeats 400000 in
theorem isLevel_no (a : Int) (w : World) (h : ¬ (0 ≤ a ∧ a < 8)) : Calls Try.prog 41 #[.int .i64 a] w fun e w' => e = .returned (.bool false) ∧ w' = w := by
  by_cases h0 : 0 ≤ a
  · have h1 : ¬ a < 8 := fun e => h ⟨h0, e⟩
    clear h
    go_enter Try.func41, Try.ntmps41
    go_wp2
    go_ret
    exact ⟨rfl, rfl⟩
  · clear h
    go_enter Try.func41, Try.ntmps41
    go_wp2
    go_ret
    exact ⟨rfl, rfl⟩
end Go.Proofs.Ytpacgdplbddclaa
