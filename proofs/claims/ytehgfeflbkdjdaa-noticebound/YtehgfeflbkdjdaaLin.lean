/-
  THE CONTRACTS of a Line: New, Push, Pop, Remove, List of package line.
-/
import Derived.Test.YtehgfeflbkdjdaaHds
namespace Go.Proofs.Ytehgfeflbkdjdaa
set_option maxRecDepth 10000
open Go.RowKit
set_option linter.unusedVariables false

/-- A line (the program's, or the document's) at p. -/
abbrev LA (w : World) (O : Nat → Prop) (p : Nat) (L : List Int) : Prop := HA eI 3 1 w O p L
/-! ### The chapter's answers -/
def M.pe (L : List Int) (a : Int) : Int := if 0 ≤ a ∧ a < 64 then (if a ∈ L then 4 else 0) else 1
def M.pl (L : List Int) (a : Int) : List Int := if 0 ≤ a ∧ a < 64 ∧ a ∉ L then L ++ [a] else L
theorem M.pl_nodup {L : List Int} (a : Int) (h : L.Nodup) : (M.pl L a).Nodup := by
  unfold M.pl
  split
  · rename_i c
    rw [List.nodup_append]
    refine ⟨h, by simp, ?_⟩
    intro x hx y hy
    simp at hy
    subst hy
    rintro rfl
    exact c.2.2 hx
  · exact h
theorem M.pl_len (L : List Int) (a : Int) : (M.pl L a).length ≤ L.length + 1 := by
  unfold M.pl
  split <;> simp
theorem M.wo_head {a : Int} {L : List Int} (h : (a :: L).Nodup) : M.wo (a :: L) a = L := by
  have h1 : a ∉ L := (List.nodup_cons.1 h).1
  have := M.wo_not h1
  unfold M.wo at this ⊢
  rw [List.filter_cons]
  simp [this]
theorem rowI (w : World) (a : Int) : ∀ j u, (cl eI [a])[j]? = some u → (w.alloc (.cells #[.int .i64 a] 3)).cell? ((⟨w.heap.size, 0, none⟩ : Addr).add j) = some u := by
  intro j u h
  have hj : j < 1 := by have := (List.getElem?_eq_some_iff.1 h).1; rwa [cl_len encI] at this
  obtain rfl : j = 0 := by omega
  simp [cl] at h
  subst h
  rw [Addr.add_lit]
  simp

/-! ### New -/
set_option maxHeartbeats 400000 in
theorem new_is (w : World) : Calls Try.prog 23 #[] w fun e w' => e = .returned (.pointer (some ⟨w.heap.size, 0, none⟩)) ∧ LA w' (fun i => i = w.heap.size) w.heap.size [] ∧ w'.heap.size = w.heap.size + 1 ∧ w.grownBy w' none := by
  go_enter Try.func23, Try.ntmps23
  go_wp2
  go_ret
  exact ⟨rfl, ⟨⟨.slice none 0 0, by simp, Ls.nil _ _ _ _ _, fun k hk => by cases hk⟩, fun i => by simp, by simp, rfl⟩, by simp, gbAlloc _ _ _⟩

/-! ### Push -/
set_option maxHeartbeats 400000 in
theorem push_no1 (w : World) (p : Nat) (a : Int) (h : ¬ (0 ≤ a ∧ a < 64)) :
    Calls Try.prog 26 #[.pointer (some ⟨p, 0, none⟩), .int .i64 a] w fun e w' => e = .returned (.int .i64 1) ∧ w' = w := by
  have HI := hideIt (isID_no a w h)
  clear h
  go_enter Try.func26, Try.ntmps26
  go_wp2_with fail
  refine HI.out.mono ?_
  rintro e w1 ⟨rfl, rfl⟩
  go_wp2
  go_ret
  exact ⟨rfl, rfl⟩
set_option maxHeartbeats 400000 in
theorem push_no4 {w : World} {O : Nat → Prop} {p : Nat} {L : List Int} (h : LA w O p L) (hl : L.length ≤ 1000) (a : Int) (h0 : 0 ≤ a) (h1 : a < 64) (ha : a ∈ L) :
    Calls Try.prog 26 #[.pointer (some ⟨p, 0, none⟩), .int .i64 a] w fun e w' => e = .returned (.int .i64 4) ∧ w' = w := by
  have HI := hideIt (isID_yes a w h0 h1)
  obtain ⟨v, c1, l1, _⟩ := h.ex
  have HC := hideIt (contains_is l1 hl a true (by simpa using ha))
  clear h ha l1
  go_enter Try.func26, Try.ntmps26
  go_wp2_with fail
  refine HI.out.mono ?_
  rintro e w1 ⟨rfl, rfl⟩
  go_wp2_with fail
  refine HC.out.mono ?_
  rintro e w1 ⟨rfl, rfl⟩
  go_wp2
  go_ret
  exact ⟨rfl, rfl⟩
set_option maxHeartbeats 400000 in
theorem push_yes {w : World} {O : Nat → Prop} {p : Nat} {L : List Int} (h : LA w O p L) (hl : L.length ≤ 999) (a : Int) (h0 : 0 ≤ a) (h1 : a < 64) (ha : a ∉ L) :
    Calls Try.prog 26 #[.pointer (some ⟨p, 0, none⟩), .int .i64 a] w fun e w' => e = .returned (.int .i64 0) ∧ LA w' (wide O w w') p (L ++ [a]) ∧ Fr O w w' := by
  have HI := hideIt (isID_yes a w h0 h1)
  have hp := h.lt
  have hq1 : ¬ p = w.heap.size := by omega
  have hq2 : ¬ w.heap.size = p := by omega
  obtain ⟨n0, hn0⟩ : ∃ n0, L.length = n0 := ⟨_, rfl⟩
  obtain ⟨x0, c0, x, n, cap, w6, b1, b2, b3, b4, b5⟩ := HA.push h n0 hn0 run_append_i (gbAlloc w (.cells #[.int .i64 a] 3) none) ⟨w.heap.size, 0, none⟩ 1 a (rowI w a) (by omega)
  have HC : Hid (Calls Try.prog 31 #[.slice x0 n0 c0, .int .i64 a] w fun e w' => e = .returned (.bool false) ∧ w' = w) := by
    obtain ⟨v, c1, l1, _⟩ := h.ex
    rw [b1] at c1
    cases c1
    exact hideIt (contains_is l1 (by omega) a false (by simpa using ha))
  clear h ha hn0 hl
  go_enter Try.func26, Try.ntmps26
  go_wp2_with fail
  refine HI.out.mono ?_
  rintro e w1 ⟨rfl, rfl⟩
  go_wp2_with fail
  refine HC.out.mono ?_
  rintro e w1 ⟨rfl, rfl⟩
  go_wp2_with (at_builtin; refine wpList_append_run rfl (.tmp 18) (.tmp 20) rfl (.slice x0 n0 c0) (.slice (some ⟨w1.heap.size, 0, none⟩) 1 1) rfl rfl (.slice x n cap) w6 b2 ?_)
  go_ret
  exact ⟨rfl, b5.out⟩
theorem push_is {w : World} {O : Nat → Prop} {p : Nat} {L : List Int} (h : LA w O p L) (hl : L.length ≤ 999) (a f : Int) (hf : M.pe L a = f) :
    Calls Try.prog 26 #[.pointer (some ⟨p, 0, none⟩), .int .i64 a] w fun e w' => e = .returned (.int .i64 f) ∧ LA w' (wide O w w') p (M.pl L a) ∧ Fr O w w' := by
  subst hf
  unfold M.pe M.pl
  by_cases h1 : 0 ≤ a ∧ a < 64
  · rw [if_pos h1]
    by_cases h2 : a ∈ L
    · rw [if_pos h2, if_neg (fun e => e.2.2 h2)]
      refine (push_no4 h (by omega) a h1.1 h1.2 h2).mono ?_
      rintro e w1 ⟨rfl, rfl⟩
      exact ⟨rfl, h.wider _ _, Fr.refl _ _⟩
    · rw [if_neg h2, if_pos ⟨h1.1, h1.2, h2⟩]
      exact push_yes h hl a h1.1 h1.2 h2
  · rw [if_neg h1, if_neg (fun e => h1 ⟨e.1, e.2.1⟩)]
    refine (push_no1 w p a h1).mono ?_
    rintro e w1 ⟨rfl, rfl⟩
    exact ⟨rfl, h.wider _ _, Fr.refl _ _⟩

/-! ### Remove -/
set_option maxHeartbeats 400000 in
theorem remove_is {w : World} {O : Nat → Prop} {p : Nat} {L : List Int} (h : LA w O p L) (hl : L.length ≤ 1000) (hd : L.Nodup) (a : Int) (b : Bool) (hb : L.contains a = b) :
    Calls Try.prog 27 #[.pointer (some ⟨p, 0, none⟩), .int .i64 a] w fun e w' => e = .returned (.bool b) ∧ LA w' (wide O w w') p (M.wo L a) ∧ Fr O w w' := by
  obtain ⟨x, c, c1, _, _, l1, o1⟩ := h.see
  have HW := hideIt (without_is l1 hl hd a b hb)
  have H := hideIt h
  have HO := hideIt o1
  obtain ⟨n, hn⟩ : ∃ n, L.length = n := ⟨_, rfl⟩
  rw [hn] at c1 HW HO
  clear h l1 o1 hd hn hb
  go_enter Try.func27, Try.ntmps27
  go_wp2_with fail
  refine HW.out.mono ?_
  rintro e w1 ⟨v', rfl, l2, o2, g2⟩
  have F1 := hideIt (Fr.opt g2 HO.out)
  have hp : ¬ (O p ∧ p ≠ p) := fun e => e.2 rfl
  have c2 := F1.out.cell c1 hp
  have f2 := (F1.out.frozen H.out.lt hp).trans (H.out.fz 0)
  have HE := hideIt (H.out.store F1.out l2.low (fun k hk => by rw [o2] at hk; exact ⟨.inl (HO.out k hk).1, (HO.out k hk).2⟩))
  obtain ⟨x', c', rfl, _⟩ := l2.arr
  clear l2 o2 g2 c1
  go_wp2
  go_ret
  exact ⟨rfl, HE.out⟩

/-! ### Pop -/
set_option maxHeartbeats 400000 in
theorem pop_no {w : World} {O : Nat → Prop} {p : Nat} (h : LA w O p []) :
    Calls Try.prog 24 #[.pointer (some ⟨p, 0, none⟩)] w fun e w' => e = .returned (.tuple #[.int .i64 0, .bool false]) ∧ w' = w := by
  obtain ⟨x, c, c1, _⟩ := h.see
  clear h
  go_enter Try.func24, Try.ntmps24
  go_wp2
  go_ret2
  exact ⟨rfl, rfl⟩
set_option maxHeartbeats 400000 in
theorem pop_yes {w : World} {O : Nat → Prop} {p : Nat} {a : Int} {L : List Int} (h : LA w O p (a :: L)) (hl : (a :: L).length ≤ 1000) (hd : (a :: L).Nodup) :
    Calls Try.prog 24 #[.pointer (some ⟨p, 0, none⟩)] w fun e w' => e = .returned (.tuple #[.int .i64 a, .bool true]) ∧ LA w' (wide O w w') p L ∧ Fr O w w' := by
  have HR := hideIt (remove_is h hl hd a true (by simp))
  rw [M.wo_head hd] at HR
  obtain ⟨v, c1, l1, _⟩ := h.ex
  obtain ⟨g, cap, rfl, _⟩ := l1.has (n := L.length + 1) rfl (by omega)
  have e0 := IL.at l1 rfl 0 a rfl
  obtain ⟨n, hn⟩ : ∃ n, L.length + 1 = n := ⟨_, rfl⟩
  rw [hn] at c1
  have hn0 : 0 < n := by omega
  clear h l1 hd hn hl
  go_enter Try.func24, Try.ntmps24
  go_wp2_with fail
  refine HR.out.mono ?_
  rintro e w1 ⟨rfl, q⟩
  have q := hideIt q
  clear c1 e0
  go_wp2
  go_ret2
  exact ⟨rfl, q.out⟩
/-- Who is first; 0: nobody. -/
def M.hd (L : List Int) : Int := L.headD 0
def M.hb (L : List Int) : Bool := !L.isEmpty
theorem pop_is {w : World} {O : Nat → Prop} {p : Nat} {L : List Int} (h : LA w O p L) (hl : L.length ≤ 1000) (hd : L.Nodup) (a : Int) (b : Bool) (ha : M.hd L = a) (hb : M.hb L = b) :
    Calls Try.prog 24 #[.pointer (some ⟨p, 0, none⟩)] w fun e w' => e = .returned (.tuple #[.int .i64 a, .bool b]) ∧ LA w' (wide O w w') p L.tail ∧ Fr O w w' := by
  subst ha hb
  cases L with
  | nil =>
    refine (pop_no h).mono ?_
    rintro e w1 ⟨rfl, rfl⟩
    exact ⟨rfl, h.wider _ _, Fr.refl _ _⟩
  | cons x L => exact pop_yes h hl hd

/-! ### List -/
set_option maxHeartbeats 400000 in
theorem list_is {w : World} {O : Nat → Prop} {p : Nat} {L : List Int} (h : LA w O p L) (hl : L.length ≤ 1000) :
    Calls Try.prog 29 #[.pointer (some ⟨p, 0, none⟩)] w fun e w' => ∃ v', e = .returned v' ∧ IL w' w.heap.size v' L ∧ w.grownBy w' none := by
  obtain ⟨v, c1, l1, _⟩ := h.ex
  have HC := hideIt (clone_is l1 hl)
  clear h l1
  go_enter Try.func29, Try.ntmps29
  go_wp2_with fail
  refine HC.out.mono ?_
  rintro e w1 ⟨v', rfl, l2, g2⟩
  have l2 := hideIt l2
  go_wp2
  go_ret
  exact ⟨_, rfl, l2.out, g2⟩
end Go.Proofs.Ytehgfeflbkdjdaa
