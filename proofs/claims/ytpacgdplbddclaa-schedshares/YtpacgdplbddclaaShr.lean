/-
  EACH DOMAIN'S TICKS, PLAIN; arrays of four numbers in memory.
-/
import Derived.Test.YtpacgdplbddclaaWrk
namespace Go.Proofs.Ytpacgdplbddclaa
set_option maxRecDepth 10000
set_option linter.unusedVariables false
open Go.RowKit
namespace M
/-- A domain's ticks among the first n entries. -/
def dt (T : List (Int × Int)) (d : Int) : Nat → Int
  | 0 => 0
  | n + 1 => dt T d n + if dm T n = d then tt T n else 0
/-- A domain's ticks behind r rounds, entry n running with l left. -/
def got (T : List (Int × Int)) (d : Int) (n : Nat) (l : Int) (r : Int) : Int := r * dt T d T.length + dt T d n + if dm T n = d then tt T n - l else 0
/-- i ticks have gone: r rounds, and entry n runs with l left. -/
def Sh (T : List (Int × Int)) (i : Int) (n : Nat) (l r : Int) : Prop := ∃ N, Ps T n l N ∧ i = r * tk T + N
section
variable {T : List (Int × Int)}
theorem Ok.dt_bd (h : Ok T) (d : Int) : ∀ n, n ≤ T.length → 0 ≤ dt T d n ∧ dt T d n ≤ pre T n := by
  intro n
  induction n with
  | zero => intro _; rw [pre_zero]; simp [dt]
  | succ n ih =>
    intro hn
    have h1 := ih (by omega)
    have h2 := h.dmB (n := n) (by omega)
    rw [pre_succ (by omega), dt]
    split <;> omega
theorem Sh.zero (h : Ok T) : Sh T 0 0 (tt T 0) 0 := ⟨0, Ps.zero h, by simp⟩
theorem got_zero (d : Int) (r : Int) : got T d 0 (tt T 0) r = r * dt T d T.length := by
  unfold got
  have : dt T d 0 = 0 := rfl
  rw [this]
  split <;> omega
theorem Sh.step (h : Ok T) {i : Int} {n : Nat} {l r : Int} (s : Sh T i n l r) :
    ∃ r', Sh T (i + 1) (tn T n l) (tl T n l) r' ∧ (∀ d, got T d (tn T n l) (tl T n l) r' = got T d n l r + if dm T n = d then 1 else 0) ∧ r' * (T.length : Int) + (tn T n l : Int) = r * (T.length : Int) + (n : Int) + if l = 1 then 1 else 0 := by
  obtain ⟨N, p, hi⟩ := s
  have hb := p.bd h
  have pt := p.tick h
  have hl := h.l1
  by_cases c : 1 < l
  · refine ⟨r, ⟨N + 1, ?_, by omega⟩, fun d => ?_, ?_⟩
    · rw [Int.emod_eq_of_lt (by omega) (by omega)] at pt
      exact pt
    · unfold got tn tl
      rw [if_pos c, if_pos c]
      split <;> omega
    · unfold tn
      rw [if_pos c, if_neg (by omega)]
      omega
  · have h1 : l = 1 := by have := p.l1; omega
    have h2 : N + 1 = pre T (n + 1) := by omega
    have hs := pre_succ p.lt
    by_cases d : n + 1 < T.length
    · have e : (n + 1) % T.length = n + 1 := Nat.mod_eq_of_lt d
      have h3 := h.pre_mono (T.length - (n + 1)) (n + 1) (by omega)
      have e2 : n + 1 + (T.length - (n + 1)) = T.length := by omega
      rw [e2, pre_all] at h3
      refine ⟨r, ⟨N + 1, ?_, by omega⟩, fun x => ?_, ?_⟩
      · rw [Int.emod_eq_of_lt (by omega) (by omega)] at pt
        exact pt
      · unfold got tn tl
        rw [if_neg c, if_neg c, e, h1, dt]
        generalize r * dt T x T.length = z
        split <;> split <;> omega
      · unfold tn
        rw [if_neg c, e, if_pos h1]
        generalize r * (T.length : Int) = z
        omega
    · have e0 : n + 1 = T.length := by have := p.lt; omega
      have e : (n + 1) % T.length = 0 := by rw [e0, Nat.mod_self]
      have hN : N + 1 = tk T := by rw [h2, e0, pre_all]
      have ex : ∀ z : Int, (r + 1) * z = r * z + z := fun z => by rw [Int.add_mul, Int.one_mul]
      refine ⟨r + 1, ⟨0, ?_, by rw [ex]; omega⟩, fun x => ?_, ?_⟩
      · rw [hN, Int.emod_self] at pt
        exact pt
      · unfold tn tl
        rw [if_neg c, if_neg c, e, got_zero, ex]
        unfold got
        have e3 : dt T x T.length = dt T x n + if dm T n = x then tt T n else 0 := by rw [← e0, dt]
        rw [h1]
        generalize r * dt T x T.length = z
        rw [e3]
        split <;> omega
      · unfold tn
        rw [if_neg c, e, if_pos h1, ex]
        generalize r * (T.length : Int) = z
        omega
theorem Sh.done (h : Ok T) {R : Int} {n : Nat} {l r : Int} (s : Sh T (R * tk T) n l r) : n = 0 ∧ l = tt T 0 ∧ r = R := by
  obtain ⟨N, p, hi⟩ := s
  have hb := p.bd h
  have hk := h.tk_bd
  have e1 : (R - r) * tk T = N := by rw [Int.sub_mul]; omega
  have e2 : N = 0 := by
    have : ((R - r) * tk T) % tk T = 0 := Int.mul_emod_left _ _
    rw [e1, Int.emod_eq_of_lt (by omega) (by omega)] at this
    exact this
  rw [e2] at e1
  have e3 : R - r = 0 := by
    rcases Int.mul_eq_zero.1 e1 with e | e
    · exact e
    · omega
  have h1 := (h.pre_bd n (by have := p.lt; omega)).1
  have h2 := p.eq
  have h3 := p.l2
  have hn : n = 0 := by omega
  subst hn
  rw [pre_zero] at h2
  exact ⟨rfl, by omega, by omega⟩
end
end M

/-! ### Arrays of four numbers -/
structure A4 (w : World) (a : Nat) (f : Nat → Int) : Prop where
  at_ : ∀ d, d < 4 → w.cell? ⟨a, d, none⟩ = some (.int .i64 (f d))
  fz : ∀ i, w.frozen? ⟨a, i, none⟩ = false
  lt : a < w.heap.size
theorem A4.fr {O : Nat → Prop} {w w' : World} {a : Nat} {f : Nat → Int} (h : A4 w a f) (k : Fr O w w') (ho : ¬ O a) : A4 w' a f :=
  ⟨fun d hd => k.cell (h.at_ d hd) ho, fun i => (k.frozen h.lt ho).trans (h.fz i), Nat.lt_of_lt_of_le h.lt k.size⟩
theorem A4.kept {w w' : World} {a : Nat} {f : Nat → Int} (h : A4 w a f) (g : w.grownBy w' none) : A4 w' a f := h.fr (O := fun _ => False) (Fr.grown g) (fun e => e)
theorem A4.same {w : World} {a : Nat} {f g : Nat → Int} (h : A4 w a f) (e : ∀ d, d < 4 → f d = g d) : A4 w a g := ⟨fun d hd => by rw [← e d hd]; exact h.at_ d hd, h.fz, h.lt⟩
theorem A4.set {w : World} {a : Nat} {f : Nat → Int} (h : A4 w a f) {k : Nat} (hk : k < 4) (v : Int) : ∃ W, w.setCell ⟨a, k, none⟩ (.int .i64 v) = W ∧ A4 W a (upd f k v) ∧ w.grownBy W (some a) := by
  have G := gbSetCell w a k (.int .i64 v)
  refine ⟨_, rfl, ⟨fun d hd => ?_, fun i => by rw [World.frozen?_setCell]; exact h.fz i, Nat.lt_of_lt_of_le h.lt G.size⟩, G⟩
  by_cases e : d = k
  · subst e; rw [upd_at]; exact World.cell?_setCell_same _ _ _ (h.at_ d hd)
  · rw [upd_ne _ _ e]; exact (World.cell?_setCell_other _ _ _ _ (by intro q; cases q; exact e rfl)).trans (h.at_ d hd)
theorem A4.new (w : World) : ∃ W, w.alloc (.cells #[.int .i64 0, .int .i64 0, .int .i64 0, .int .i64 0] 51) = W ∧ A4 W w.heap.size (fun _ => 0) ∧ w.grownBy W none ∧ W.heap.size = w.heap.size + 1 := by
  refine ⟨_, rfl, ⟨fun d hd => ?_, fun i => by simp, by simp⟩, gbAlloc _ _ _, by simp⟩
  have : d = 0 ∨ d = 1 ∨ d = 2 ∨ d = 3 := by omega
  rcases this with rfl | rfl | rfl | rfl <;> simp
/-- A schedule, and two such arrays. -/
structure Sx (w0 w : World) (P : Nat → Prop) (p : Nat) (T : List (Int × Int)) (n : Nat) (l : Int) (a : Nat) (f : Nat → Int) (b : Nat) (g : Nat → Int) : Prop where
  o : On (fun w O => SA w O p T n l (fun _ => [])) w0 w P
  wa : A4 w a f
  wb : A4 w b g
  na : ¬ P a
  nb : ¬ P b
  ab : a ≠ b
  la : w0.heap.size ≤ a
  lb : w0.heap.size ≤ b
section
variable {w0 w w' : World} {P : Nat → Prop} {p : Nat} {T : List (Int × Int)} {n n' : Nat} {l l' : Int} {a b : Nat} {f g : Nat → Int}
theorem Sx.kept (h : Sx w0 w P p T n l a f b g) (k : w.grownBy w' none) : Sx w0 w' P p T n l a f b g :=
  ⟨oKept h.o k, h.wa.kept k, h.wb.kept k, h.na, h.nb, h.ab, h.la, h.lb⟩
theorem Sx.turn (h : Sx w0 w P p T n l a f b g) (Z : SA w' (wide P w w') p T n' l' (fun _ => [])) (k : Fr P w w') : Sx w0 w' (wide P w w') p T n' l' a f b g :=
  ⟨oTurn h.o Z k, h.wa.fr k h.na, h.wb.fr k h.nb, wideNo h.na h.wa.lt, wideNo h.nb h.wb.lt, h.ab, h.la, h.lb⟩
theorem Sx.setA (h : Sx w0 w P p T n l a f b g) {k : Nat} (hk : k < 4) (v : Int) : ∃ W, w.setCell ⟨a, k, none⟩ (.int .i64 v) = W ∧ Sx w0 W P p T n l a (upd f k v) b g := by
  obtain ⟨W, hW, A, G⟩ := h.wa.set hk v
  have F : Fr (fun i => i = a) w W := Fr.at G rfl
  exact ⟨W, hW, On.beside (kSA p T n l _) h.o F (fun i hi => by subst hi; exact ⟨h.la, h.na⟩), A, h.wb.fr F (fun e => h.ab e.symm), h.na, h.nb, h.ab, h.la, h.lb⟩
theorem Sx.setB (h : Sx w0 w P p T n l a f b g) {k : Nat} (hk : k < 4) (v : Int) : ∃ W, w.setCell ⟨b, k, none⟩ (.int .i64 v) = W ∧ Sx w0 W P p T n l a f b (upd g k v) := by
  obtain ⟨W, hW, A, G⟩ := h.wb.set hk v
  have F : Fr (fun i => i = b) w W := Fr.at G rfl
  exact ⟨W, hW, On.beside (kSA p T n l _) h.o F (fun i hi => by subst hi; exact ⟨h.lb, h.nb⟩), h.wa.fr F h.ab, A, h.na, h.nb, h.ab, h.la, h.lb⟩
theorem Sx.same {f' g' : Nat → Int} (h : Sx w0 w P p T n l a f b g) (e1 : ∀ d, d < 4 → f d = f' d) (e2 : ∀ d, d < 4 → g d = g' d) : Sx w0 w P p T n l a f' b g' :=
  ⟨h.o, h.wa.same e1, h.wb.same e2, h.na, h.nb, h.ab, h.la, h.lb⟩
end
end Go.Proofs.Ytpacgdplbddclaa
