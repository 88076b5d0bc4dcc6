/-
  PLAIN: eight lines of one domain, raised, taken in order, acked.
-/
import Derived.Test.YtekohlbafhlldaaOwd
namespace Go.Proofs.Ytekohlbafhlldaa
set_option maxRecDepth 10000
open Go.RowKit
set_option linter.unusedVariables false
namespace M
/-- All are d's; f: which are pending. -/
def ow8 (d : Int) : Nat → Int := fun k => if k < 8 then (if k % 2 = 1 then d else d) else -1
def ra (d : Int) (f : Nat → Bool) : I := ⟨f, fun k => decide (8 ≤ k), ow8 d⟩
theorem oj_ra (d : Int) : oj d d 8 = ra d (fun _ => false) := rfl
theorem ow8_lt (d : Int) (k : Nat) (hk : k < 8) : ow8 d k = d := by unfold ow8; rw [if_pos hk]; split <;> rfl
theorem ra_raise (d : Int) (f : Nat → Bool) (k : Nat) (hk : k < 8) : re (k : Int) = 0 ∧ rs (ra d f) (k : Int) = ra d (ub f k true) := by
  have l : isL (k : Int) = true := isL_iff.2 (by omega)
  unfold re rs
  rw [if_pos l, if_pos l, Int.toNat_natCast]
  exact ⟨rfl, rfl⟩
/-- The first n are taken. -/
def rt (d : Int) (f : Nat → Bool) (n : Nat) : I := ⟨fun k => f k && decide (n ≤ k), fun k => decide (8 ≤ k) || (f k && decide (k < n)), ow8 d⟩
theorem rt0 (d : Int) (f : Nat → Bool) : rt d f 0 = ra d f := by unfold rt ra; simp
theorem rt_no (d : Int) (f : Nat → Bool) (n : Nat) (h : f n = false) : rt d f n = rt d f (n + 1) := by
  unfold rt
  simp only [I.mk.injEq, and_true]
  constructor
  · funext k
    by_cases c : k = n
    · subst c; simp [h]
    · have : decide (n ≤ k) = decide (n + 1 ≤ k) := by rw [decide_eq_decide]; omega
      rw [this]
  · funext k
    by_cases c : k = n
    · subst c; simp [h]
    · have : decide (k < n) = decide (k < n + 1) := by rw [decide_eq_decide]; omega
      rw [this]
theorem rt_yes (d : Int) (f : Nat → Bool) (n : Nat) (hn : n < 8) (h : f n = true) : Nx (rt d f n) d (some n) ∧ ns (rt d f n) (some n) = rt d f (n + 1) := by
  refine ⟨⟨hn, ?_, fun j hj => ?_⟩, ?_⟩
  · unfold hit rt
    simp only []
    rw [ow8_lt d n hn, h]
    simp; omega
  · unfold hit rt
    have : decide (n ≤ j) = false := by simp; omega
    simp [this]
  · unfold ns rt
    simp only [I.mk.injEq, and_true]
    constructor
    · funext k
      unfold ub
      by_cases c : k = n
      · subst c; simp
      · rw [if_neg c]
        have : decide (n ≤ k) = decide (n + 1 ≤ k) := by rw [decide_eq_decide]; omega
        show (f k && decide (n ≤ k)) = (f k && decide (n + 1 ≤ k))
        rw [this]
    · funext k
      unfold ub
      by_cases c : k = n
      · subst c; simp [h]
      · rw [if_neg c]
        have : decide (k < n) = decide (k < n + 1) := by rw [decide_eq_decide]; omega
        show (decide (8 ≤ k) || f k && decide (k < n)) = (decide (8 ≤ k) || f k && decide (k < n + 1))
        rw [this]
theorem rt_bits (d : Int) (f : Nat → Bool) (n : Nat) (h : f n = true) : (rt d f (n + 1)).m n = true ∧ (rt d f (n + 1)).p n = false := by
  unfold rt
  simp [h]
theorem rt_end (d : Int) (f : Nat → Bool) : Nx (rt d f 8) d none ∧ wd (rt d f 8).p = 0 := by
  have h : ∀ k, k < 8 → (rt d f 8).p k = false := fun k hk => by unfold rt; simp; omega
  exact ⟨fun j hj => by unfold hit; rw [h j hj]; simp, wd_zero _ h⟩
/-- The first n are acked. -/
def rk (d : Int) (f : Nat → Bool) (n : Nat) : I := ⟨fun k => f k && decide (8 ≤ k), fun k => decide (8 ≤ k) || (f k && (decide (k < 8) && decide (n ≤ k))), ow8 d⟩
theorem rk0 (d : Int) (f : Nat → Bool) : rt d f 8 = rk d f 0 := by unfold rt rk; simp
theorem rk_ack (d : Int) (hd : 0 ≤ d) (f : Nat → Bool) (n : Nat) (hn : n < 8) : ae (rk d f n) (n : Int) = (if f n then 0 else 8) ∧ ak (rk d f n) (n : Int) = rk d f (n + 1) := by
  have l : isL (n : Int) = true := isL_iff.2 (by omega)
  have o : (rk d f n).o n = d := ow8_lt d n hn
  have m : (rk d f n).m n = f n := by unfold rk; simp [hn]; omega
  constructor
  · unfold ae
    rw [if_pos l, Int.toNat_natCast, o, m]
    cases f n with
    | true => rw [if_neg (by rintro (e | e); omega; cases e)]; rfl
    | false => rw [if_pos (.inr rfl)]; rfl
  · unfold ak
    rw [Int.toNat_natCast, if_pos ⟨l, by rw [o]; omega⟩]
    unfold rk
    simp only [I.mk.injEq, and_true, true_and]
    funext k
    unfold ub
    by_cases c : k = n
    · subst c; simp; omega
    · rw [if_neg c]
      have : decide (n ≤ k) = decide (n + 1 ≤ k) := by rw [decide_eq_decide]; omega
      show (decide (8 ≤ k) || (f k && (decide (k < 8) && decide (n ≤ k)))) = (decide (8 ≤ k) || (f k && (decide (k < 8) && decide (n + 1 ≤ k))))
      rw [this]
theorem rk_end (d : Int) (f : Nat → Bool) : wd (rk d f 8).m = 0 :=
  wd_zero _ (fun k hk => by unfold rk; simp; omega)
end M
/-- The program's lines and an array of eight Bools, both new. -/
structure Ob (w0 w : World) (P : Nat → Prop) (x b : Nat) (i : I) (f : Nat → Bool) : Prop where
  on : On w0 w P x i
  ba : BA w b f
  lo : w0.heap.size ≤ b
  np : ¬ P b
section
variable {w0 w w' : World} {P : Nat → Prop} {x b : Nat} {i i' : I} {f : Nat → Bool}
theorem Ob.kept (h : Ob w0 w P x b i f) (g : w.grownBy w' none) : Ob w0 w' P x b i f := ⟨h.on.kept g, h.ba.kept g, h.lo, h.np⟩
theorem Ob.turn (h : Ob w0 w P x b i f) (T : IA w' P x i') (F : Fr P w w') : Ob w0 w' P x b i' f := ⟨h.on.turn T F, h.ba.fr F h.np, h.lo, h.np⟩
theorem Ob.set (h : Ob w0 w P x b i f) (k : Nat) (v : Bool) : ∃ W, w.setCell ⟨b, k, none⟩ (.bool v) = W ∧ Ob w0 W P x b i (ub f k v) ∧ w.grownBy W (some b) := by
  obtain ⟨W, e, B, g⟩ := h.ba.set k v
  exact ⟨W, e, ⟨h.on.beside (O := fun j => j = b) (Fr.at g rfl) (fun j hj => by subst hj; exact ⟨h.lo, h.np⟩), B, h.lo, h.np⟩, g⟩
end
end Go.Proofs.Ytekohlbafhlldaa
