/-
  THE DOCUMENT'S SIDE (donjonref07): at, Radix, Is.
-/
import Derived.Test.YtakappaaiknpfaaRmem
import Derived.Deep.LoopGhost
namespace Go.Proofs.Ytakappaaiknpfaa
open Go.RowKit
set_option linter.unusedVariables false

set_option maxHeartbeats 1000000 in
theorem at_nil (w : World) (p : Nat) (id : Int) (hc : w.cell? ⟨p, 0, none⟩ = some (.slice none 0 0)) :
    Calls Try.prog 34 #[.pointer (some ⟨p, 0, none⟩), .int .i64 id] w fun e w' => e = .returned (.int .i64 (-1)) ∧ w' = w := by
  go_enter Try.func34, Try.ntmps34
  go_wp2
  refine wp_loop_rounds 1 ?_
  rw [rounds_succ]
  go_wp2
  go_ret
  exact ⟨rfl, rfl⟩

set_option maxHeartbeats 1000000 in
theorem at_not (w : World) (p g n cap : Nat) (id : Int) (hn : n ≤ 1000) (hc : w.cell? ⟨p, 0, none⟩ = some (.slice (some ⟨g, 0, none⟩) n cap)) (HX : Hid (∀ c, c < n → ∃ a : Int, w.cell? ⟨g, c * 3, none⟩ = some (.int .i64 a) ∧ (a == id) = false)) :
    Calls Try.prog 34 #[.pointer (some ⟨p, 0, none⟩), .int .i64 id] w fun e w' => e = .returned (.int .i64 (-1)) ∧ w' = w := by
  go_enter Try.func34, Try.ntmps34
  go_wp2
  go_loopg [5] n (fun y i wr => ∃ c : Nat, c + y = n ∧ i = .int .i64 c ∧ wr = w)
  case atStart => exact ⟨0, by omega, rfl, rfl⟩
  case round =>
    obtain ⟨c, hcn, rfl, rfl⟩ := hrel
    by_cases hlt : c < n
    · have hlt' : (c : Int) < (n : Int) := by omega
      obtain ⟨a, ha, hne⟩ := HX.out c hlt
      go_wp2
      go_roundg (gk - 1)
      case rel => exact ⟨c + 1, by omega, by go_num, rfl⟩
      case measure => omega
    · have hlt' : ¬ (c : Int) < (n : Int) := by omega
      go_wp2
      go_ret
      exact ⟨rfl, rfl⟩

set_option maxHeartbeats 1000000 in
theorem at_yes (w : World) (p g n cap j : Nat) (id : Int) (hn : n ≤ 1000) (hj : j < n) (hc : w.cell? ⟨p, 0, none⟩ = some (.slice (some ⟨g, 0, none⟩) n cap)) (HX : Hid (∀ c, c < j → ∃ a : Int, w.cell? ⟨g, c * 3, none⟩ = some (.int .i64 a) ∧ (a == id) = false)) (HJ : Hid (w.cell? ⟨g, j * 3, none⟩ = some (.int .i64 id))) :
    Calls Try.prog 34 #[.pointer (some ⟨p, 0, none⟩), .int .i64 id] w fun e w' => e = .returned (.int .i64 j) ∧ w' = w := by
  go_enter Try.func34, Try.ntmps34
  go_wp2
  go_loopg [5] j (fun y i wr => ∃ c : Nat, c + y = j ∧ i = .int .i64 c ∧ wr = w)
  case atStart => exact ⟨0, by omega, rfl, rfl⟩
  case round =>
    obtain ⟨c, hcn, rfl, rfl⟩ := hrel
    have hlt' : (c : Int) < (n : Int) := by omega
    by_cases hlt : c < j
    · obtain ⟨a, ha, hne⟩ := HX.out c hlt
      go_wp2
      go_roundg (gk - 1)
      case rel => exact ⟨c + 1, by omega, by go_num, rfl⟩
      case measure => omega
    · obtain rfl : c = j := by omega
      have ha := HJ.out
      go_wp2
      go_ret
      exact ⟨rfl, rfl⟩

theorem RA.len {w : World} {p : Nat} {v : Value} {l : List RE} {S : St} (h : RA w p v l S) (G : Good S) : l.length ≤ 64 := by
  have key : ∀ (n : Nat) (k : List RE), k.Pairwise (fun a b => a.id < b.id) → (∀ e ∈ k, (n : Int) ≤ e.id ∧ e.id ≤ 63) → k.length + n ≤ 64 ∨ k = [] := by
    intro n k
    induction k generalizing n with
    | nil => intro _ _; exact .inr rfl
    | cons e k ih =>
      intro hp hb
      obtain ⟨h1, h2⟩ := List.pairwise_cons.1 hp
      have he := hb e (by simp)
      obtain ⟨m, hm⟩ : ∃ m : Nat, e.id = m := ⟨e.id.toNat, by omega⟩
      rcases ih (m + 1) h2 (fun x hx => by have := h1 x hx; have := hb x (by simp [hx]); omega) with h3 | h3
      · left; simp; omega
      · left; subst h3; simp; omega
  rcases key 0 l h.srt (fun e he => by obtain ⟨d, hd, _⟩ := h.node e he; have := G.lo _ _ hd; omega) with h1 | h1
  · omega
  · rw [h1]; simp

theorem at_none {w : World} {p : Nat} {v : Value} {l : List RE} {S : St} (h : RA w p v l S) (G : Good S) (id : Int) (hs : S id = none) :
    Calls Try.prog 34 #[.pointer (some ⟨p, 0, none⟩), .int .i64 id] w fun e w' => e = .returned (.int .i64 (-1)) ∧ w' = w := by
  have hne := h.noId hs
  have hlen := h.len G
  have hc := h.cell
  have ls := h.ls
  rcases ls.form with ⟨rfl, _⟩ | ⟨g, cap, rfl, _, _, _, _⟩
  · exact at_nil w p id hc
  · refine at_not w p g l.length cap id (by omega) hc (hideIt fun c hcl => ?_)
    have hg : l[c]? = some l[c] := List.getElem?_eq_getElem hcl
    exact ⟨_, (ls.el hg).1, by simpa using hne _ (List.mem_of_getElem? hg)⟩
/-- What a node of the list is. -/
structure At (w : World) (p g n cap : Nat) (l : List RE) (j : Nat) (e : RE) : Prop where
  cell : w.cell? ⟨p, 0, none⟩ = some (.slice (some ⟨g, 0, none⟩) n cap)
  lt : j < n
  id : w.cell? ⟨g, j * 3, none⟩ = some (.int .i64 e.id)
  r : w.cell? ⟨g, j * 3 + 1, none⟩ = some (.int .i64 e.r)
  l : w.cell? ⟨g, j * 3 + 2, none⟩ = some (rev e)
theorem RA.at {w : World} {p : Nat} {v : Value} {l : List RE} {S : St} (h : RA w p v l S) {j : Nat} {e : RE} (hj : l[j]? = some e) : ∃ g n cap, v = .slice (some ⟨g, 0, none⟩) n cap ∧ n = l.length ∧ At w p g n cap l j e := by
  have hlt : j < l.length := (List.getElem?_eq_some_iff.1 hj).1
  have hc := h.cell
  have ls := h.ls
  rcases ls.form with ⟨_, h0⟩ | ⟨g, cap, rfl, _, _, _, _⟩
  · rw [h0] at hlt; simp at hlt
  · obtain ⟨h1, h2, h3⟩ := ls.el hj
    exact ⟨g, _, cap, rfl, rfl, hc, hlt, h1, h2, h3⟩
theorem At.kept {w w' : World} {p g n cap : Nat} {l : List RE} {j : Nat} {e : RE} (h : At w p g n cap l j e) (k : w.grownBy w' none) : At w' p g n cap l j e :=
  ⟨k.cell h.cell (by simp), h.lt, k.cell h.id (by simp), k.cell h.r (by simp), k.cell h.l (by simp)⟩
theorem at_some {w : World} {p : Nat} {v : Value} {l : List RE} {S : St} (h : RA w p v l S) (G : Good S) {j : Nat} {e : RE} (hj : l[j]? = some e) :
    Calls Try.prog 34 #[.pointer (some ⟨p, 0, none⟩), .int .i64 e.id] w fun x w' => x = .returned (.int .i64 j) ∧ w' = w := by
  have hlen := h.len G
  have hc := h.cell
  have ls := h.ls
  have hlt : j < l.length := (List.getElem?_eq_some_iff.1 hj).1
  rcases ls.form with ⟨_, h0⟩ | ⟨g, cap, rfl, _, _, _, _⟩
  · rw [h0] at hlt; simp at hlt
  · refine at_yes w p g l.length cap j e.id (by omega) hlt hc (hideIt fun c hcl => ?_) (hideIt (ls.el hj).1)
    have hg : l[c]? = some l[c] := List.getElem?_eq_getElem (by omega)
    exact ⟨_, (ls.el hg).1, by have := (h.apart hg hj hcl).1; simp; omega⟩

set_option maxHeartbeats 400000 in
theorem rradix_no (w : World) (p : Nat) (id : Int) (HA : Calls Try.prog 34 #[.pointer (some ⟨p, 0, none⟩), .int .i64 id] w fun e w' => e = .returned (.int .i64 (-1)) ∧ w' = w) :
    Calls Try.prog 28 #[.pointer (some ⟨p, 0, none⟩), .int .i64 id] w fun e w' => e = .returned (.int .i64 0) ∧ w' = w := by
  go_enter Try.func28, Try.ntmps28
  go_wp2_with fail
  refine HA.mono ?_
  rintro _ w1 ⟨rfl, rfl⟩
  go_wp2
  go_ret
  exact ⟨rfl, rfl⟩
set_option maxHeartbeats 400000 in
theorem rradix_yes (w : World) (p g n cap j r : Nat) (id : Int) (hj : (j : Int) < (n : Int)) (hc : w.cell? ⟨p, 0, none⟩ = some (.slice (some ⟨g, 0, none⟩) n cap)) (hr : w.cell? ⟨g, j * 3 + 1, none⟩ = some (.int .i64 r))
    (HA : Calls Try.prog 34 #[.pointer (some ⟨p, 0, none⟩), .int .i64 id] w fun e w' => e = .returned (.int .i64 j) ∧ w' = w) :
    Calls Try.prog 28 #[.pointer (some ⟨p, 0, none⟩), .int .i64 id] w fun e w' => e = .returned (.int .i64 r) ∧ w' = w := by
  go_enter Try.func28, Try.ntmps28
  go_wp2_with fail
  refine HA.mono ?_
  rintro _ w1 ⟨rfl, rfl⟩
  go_wp2
  go_ret
  exact ⟨rfl, rfl⟩
theorem rradix_is {w : World} {p : Nat} {O : Nat → Prop} {S : St} (h : RAt w p O S) (G : Good S) (id r : Int) (hr : M.rad S id = r) :
    Calls Try.prog 28 #[.pointer (some ⟨p, 0, none⟩), .int .i64 id] w fun e w' => e = .returned (.int .i64 r) ∧ w.grownBy w' none := by
  subst hr
  obtain ⟨v, l, h, _⟩ := h
  unfold M.rad
  cases hs : S id with
  | none => exact (rradix_no w p id (at_none h G id hs)).mono fun e w' k => ⟨k.1, by rw [k.2]; exact gbRefl _ _⟩
  | some d =>
    obtain ⟨j, e, hj, rfl, hr, _⟩ := h.has hs
    obtain ⟨g, n, cap, rfl, rfl, A⟩ := h.at hj
    have h2 := A.r
    rw [← hr] at h2
    exact (rradix_yes w p g _ cap j d.r e.id (by have := A.lt; omega) A.cell h2 (at_some h G hj)).mono fun e w' k => ⟨k.1, by rw [k.2]; exact gbRefl _ _⟩

/-! ### Is -/
set_option maxHeartbeats 400000 in
theorem is_no (w : World) (p : Nat) (n i : Int) (HA : ∀ W, w.grownBy W none → Calls Try.prog 34 #[.pointer (some ⟨p, 0, none⟩), .int .i64 n] W fun e w' => e = .returned (.int .i64 (-1)) ∧ w' = W) :
    Calls Try.prog 35 #[.pointer (some ⟨p, 0, none⟩), sv n i] w fun e w' => e = .returned (.bool false) ∧ w.grownBy w' none := by
  go_enter Try.func35, Try.ntmps35
  go_upto_region 1 with fail
  obtain ⟨W, hW, X, g0⟩ := sboxNew w n i
  rw [hW]
  clear hW
  have x0 := X.at0
  go_wp2_with fail
  refine (HA W g0).mono ?_
  rintro _ w1 ⟨rfl, rfl⟩
  clear x0
  go_wp2
  refine wp_region_grown (by kernel_rfl) (by kernel_rfl) fun _ => ?_
  repeat (go_big_quiet_step (fail))
  refine wpQuiet_nil ?_
  rintro w2 ⟨⟨_, g2⟩, rfl⟩
  go_wp2
  go_ret
  exact ⟨rfl, gbTrans g0 g2⟩
set_option maxHeartbeats 800000 in
theorem is_yes (w : World) (p g m cap j h q : Nat) (n i : Int) (b0 b1 : Bool) (hj : (j : Int) < (m : Int)) (hb0 : decide (0 ≤ i) = b0) (hb1 : decide (i < (q : Int)) = b1) (hc : w.cell? ⟨p, 0, none⟩ = some (.slice (some ⟨g, 0, none⟩) m cap)) (hl : w.cell? ⟨g, j * 3 + 2, none⟩ = some (.slice (some ⟨h, 0, none⟩) q q))
    (HA : ∀ W, w.grownBy W none → Calls Try.prog 34 #[.pointer (some ⟨p, 0, none⟩), .int .i64 n] W fun e w' => e = .returned (.int .i64 j) ∧ w' = W) :
    Calls Try.prog 35 #[.pointer (some ⟨p, 0, none⟩), sv n i] w fun e w' => e = .returned (.bool (b0 && b1)) ∧ w.grownBy w' none := by
  cases b0 <;> cases b1
  all_goals
    go_enter Try.func35, Try.ntmps35
    go_upto_region 1 with fail
    obtain ⟨W, hW, X, g0⟩ := sboxNew w n i
    rw [hW]
    clear hW
    have x0 := X.at0
    go_wp2_with fail
    refine (HA W g0).mono ?_
    rintro _ w1 ⟨rfl, rfl⟩
    clear x0
    have x1 : ∀ y : Gr w1, y.w.cell? ⟨w.heap.size, 1, none⟩ = some (.int .i64 i) := fun y => (X.kept y.g).at1
    have c0 : ∀ y : Gr w1, y.w.cell? ⟨p, 0, none⟩ = some (.slice (some ⟨g, 0, none⟩) m cap) := fun y => y.g.cell (g0.cell hc (by simp)) (by simp)
    have c1 : ∀ y : Gr w1, y.w.cell? ⟨g, j * 3 + 2, none⟩ = some (.slice (some ⟨h, 0, none⟩) q q) := fun y => y.g.cell (g0.cell hl (by simp)) (by simp)
    go_wp2
    refine wp_region_grown (by kernel_rfl) (by kernel_rfl) fun _ => ?_
    repeat (go_big_quiet_step (fail))
    refine wpQuiet_nil ?_
    rintro w2 ⟨⟨_, g2⟩, rfl⟩
    go_wp2
    go_ret
    exact ⟨rfl, gbTrans g0 g2⟩

theorem is_is {w : World} {p : Nat} {v : Value} {l : List RE} {S : St} (h : RA w p v l S) (G : Good S) (n i : Int) (b : Bool) (hb : M.there S n i = b) :
    Calls Try.prog 35 #[.pointer (some ⟨p, 0, none⟩), sv n i] w fun e w' => e = .returned (.bool b) ∧ w.grownBy w' none := by
  subst hb
  unfold M.there
  cases hs : S n with
  | none => exact is_no w p n i (fun W g => at_none (h.kept g) G n hs)
  | some d =>
    obtain ⟨j, e, hj, rfl, hr, _⟩ := h.has hs
    obtain ⟨g, m, cap, rfl, rfl, A⟩ := h.at hj
    have h2 := A.l
    unfold rev at h2
    rw [← hr] at h2
    exact is_yes w p g _ cap j e.h (2 ^ d.r) e.id i _ _ (by have := A.lt; omega) rfl rfl A.cell h2 (fun W g => at_some (h.kept g) G hj)

end Go.Proofs.Ytakappaaiknpfaa
