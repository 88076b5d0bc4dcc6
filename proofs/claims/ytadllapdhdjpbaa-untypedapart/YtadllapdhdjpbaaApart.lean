/-
  OBJECTS ARE APART, AS NUMBERS: what holds of all that was made of a span, one behind the other; and Plan's contract where it refuses.
-/
import Derived.Test.YtadllapdhdjpbaaOne
import Derived.Test.YtadllapdhdjpbaaAll
namespace Go.Proofs.Ytadllapdhdjpbaa
open Go.RowKit

namespace M
/-- All that was made of the words from a up to a + t. -/
structure Held (a p : Nat) (L : List (Int × Int)) (t : Nat) : Prop where
  le : t ≤ p
  each : ∀ (i : Nat) (q : Int × Int), L[i]? = some q → rgt q.1 q.2 = true ∧ q.1 + pw q.2 ≤ ((a + t : Nat) : Int)
  apart : ∀ i, i < L.length → ∀ k, k < i → ap L i k = true
theorem Held.nil (a p : Nat) : Held a p [] 0 := ⟨Nat.zero_le _, fun i q h => by simp at h, fun i hi => by simp at hi⟩
theorem Held.all {a p t : Nat} {L : List (Int × Int)} (h : Held a p L t) : M.all L = true := all_yes h.apart

/-- One of the row, as a span. -/
theorem row_one {A B u k n c : Int} {a d p s b m x f : Nat} (F : Fits A B u k n c a d p s b m x f) (hy : f + x * m ≤ a + p) (i : Nat) (hi : i < x) :
    rgt ((f + i * m : Nat) : Int) (b : Int) = true ∧ pw (b : Int) = (m : Int) ∧ f + i * m + m ≤ f + x * m ∧ a + s ≤ f + i * m ∧ inn ((f + i * m : Nat) : Int) (b : Int) A B = true := by
  have h1 : (i + 1) * m ≤ x * m := Nat.mul_le_mul_right m (by omega)
  rw [Nat.succ_mul] at h1
  have hmod : (f + i * m) % m = 0 := by rw [Nat.add_mod, F.f3, Nat.mul_mod_left]; simp
  have hpw : pw (b : Int) = (m : Int) := by rw [pw_nat, F.hm]
  have hpB : pw B = (p : Int) := by rw [F.hB, pw_nat, F.hp]
  have hle : f + i * m + m ≤ a + p := by clear F; omega
  have hlow : a + s ≤ f + i * m := Nat.le_trans F.f1 (Nat.le_add_right _ _)
  have hr : rgt ((f + i * m : Nat) : Int) (b : Int) = true := rgt_mk (f + i * m) b m F.b16 F.hm (Nat.le_trans hle F.p2) (by exact_mod_cast hmod)
  have hrB : rgt A B = true := by have := F.ok; unfold usd at this; simp only [Bool.and_eq_true] at this; exact this.1
  refine ⟨hr, hpw, by clear F; omega, hlow, ?_⟩
  unfold inn
  have hA := F.hA
  rw [hr, hrB, hpw, hpB, hA, decide_eq_true (by clear F; omega : (a : Int) ≤ ((f + i * m : Nat) : Int)), decide_eq_true (by clear F; omega : ((f + i * m : Nat) : Int) + (m : Int) ≤ (a : Int) + (p : Int))]
  rfl

theorem Held.step {A B k n c : Int} {a d p t b m x f : Nat} {L : List (Int × Int)} (h : Held a p L t) (F : Fits A B (t : Int) k n c a d p t b m x f) (hy : f + x * m ≤ a + p) : Held a p (L ++ rowL f m b x) (f + x * m - a) := by
  have hfa : a ≤ f := Nat.le_trans (Nat.le_add_right _ _) F.f1
  have het : a + (f + x * m - a) = f + x * m := by clear F h; omega
  have hgrow : a + t ≤ f + x * m := Nat.le_trans F.f1 (Nat.le_add_right _ _)
  refine ⟨by clear F h; omega, ?_, ?_⟩
  · intro i q hq
    rw [het]
    by_cases hi : i < L.length
    · rw [List.getElem?_append_left hi] at hq
      obtain ⟨h1, h2⟩ := h.each i q hq
      exact ⟨h1, Int.le_trans h2 (by exact_mod_cast hgrow)⟩
    · rw [List.getElem?_append_right (by omega)] at hq
      have hlt : i - L.length < x := by have := (List.getElem?_eq_some_iff.1 hq).1; rwa [rowL_len] at this
      rw [rowL_get f m b x _ hlt] at hq
      obtain rfl := Option.some.inj hq
      obtain ⟨h1, h2, h3, _⟩ := row_one F hy _ hlt
      refine ⟨h1, ?_⟩
      simp only
      rw [h2]
      exact_mod_cast h3
  · intro i hi j hj
    rw [List.length_append, rowL_len] at hi
    by_cases hiL : i < L.length
    · have := h.apart i hiL j hj
      unfold ap at *
      rw [List.getElem?_append_left hiL, List.getElem?_append_left (by omega)]
      exact this
    · have hlt : i - L.length < x := by omega
      have gi : (L ++ rowL f m b x)[i]? = some (((f + (i - L.length) * m : Nat) : Int), (b : Int)) := by
        rw [List.getElem?_append_right (by omega)]; exact rowL_get f m b x _ hlt
      obtain ⟨h1, h2, h3, h4, _⟩ := row_one F hy _ hlt
      by_cases hjL : j < L.length
      · have gj : (L ++ rowL f m b x)[j]? = some L[j] := by rw [List.getElem?_append_left hjL]; exact List.getElem?_eq_getElem hjL
        obtain ⟨e1, e2⟩ := h.each j L[j] (List.getElem?_eq_getElem hjL)
        rw [ap_at gi gj]
        unfold apt
        simp only
        have h5 : L[j].1 + pw L[j].2 ≤ ((f + (i - L.length) * m : Nat) : Int) := Int.le_trans e2 (by exact_mod_cast h4)
        rw [h1, e1, decide_eq_true h5]; simp
      · have hlt2 : j - L.length < x := by omega
        have gj : (L ++ rowL f m b x)[j]? = some (((f + (j - L.length) * m : Nat) : Int), (b : Int)) := by
          rw [List.getElem?_append_right (by omega)]; exact rowL_get f m b x _ hlt2
        obtain ⟨k1, k2, k3, k4, _⟩ := row_one F hy _ hlt2
        rw [ap_at gi gj]
        unfold apt
        simp only
        have h6 : (j - L.length + 1) * m ≤ (i - L.length) * m := Nat.mul_le_mul_right m (by omega)
        rw [Nat.succ_mul] at h6
        have h5 : ((f + (j - L.length) * m : Nat) : Int) + (m : Int) ≤ ((f + (i - L.length) * m : Nat) : Int) := by
          clear F h h1 h3 h4 k1 k3 k4 gi gj
          generalize (j - L.length) * m = y1 at *
          generalize (i - L.length) * m = y2 at *
          omega
        rw [h1, k1, k2, decide_eq_true h5]; simp
/-- A round of the law where objects are made. -/
theorem round6 {k n c : Int} {a d p t a' d' p' s b m y f : Nat} {L : List (Int × Int)} (F : Fits (a : Int) (d : Int) (t : Int) k n c a' d' p' s b m y f) (hp : 2 ^ d = p) (hy : f + y * m ≤ a' + p') (h : Held a p L t) :
    c = (y : Int) ∧ 1 ≤ y ∧ y ≤ 16 ∧ bts k n = ((b : Int), 0) ∧ ∃ z : Nat, f + y * m - a' = z ∧ t ≤ z ∧ z ≤ p ∧ z ≤ 65536 ∧ Held a p (L ++ rowL f m b y) z ∧ (∃ o : Nat, (p : Int) - (z : Int) = (o : Int) ∧ lft (a : Int) (d : Int) (z : Int) = (o : Int)) ∧
      ∀ i, i < y → ∃ q r : Nat, f + i * m = q ∧ q ≤ 65536 ∧ (q : Int) - (a : Int) = (r : Int) ∧ t ≤ r ∧ inn (q : Int) (b : Int) (a : Int) (d : Int) = true := by
  have ea : a' = a := by have h1 := F.hA; omega
  have ed : d' = d := by have h1 := F.hB; omega
  have es : s = t := by have h1 := F.hu; omega
  subst ea ed es
  have ep : p' = p := by rw [← F.hp, hp]
  subst ep
  have hst := h.step F hy
  have hzp := hst.le
  have hf1 := F.f1
  have hp2 := F.p2
  have hpw : pw (d' : Int) = (p' : Int) := by rw [pw_nat, F.hp]
  obtain ⟨z, hz⟩ : ∃ z, f + y * m - a' = z := ⟨_, rfl⟩
  rw [hz] at hst hzp
  have hlf := lft_yes p' z (usd_mk F.ok p' z hpw hzp) hpw rfl
  refine ⟨F.hc, F.x1, F.x2, F.hb, z, hz, ?_, ?_, ?_, hst, ⟨p' - z, ?_, ?_⟩, ?_⟩
  · clear F h hst hlf; omega
  · clear F h hst hlf; omega
  · clear F h hst hlf; omega
  · clear F h hst hlf; omega
  · rw [hlf]; clear F h hst hlf; omega
  · intro i hi
    obtain ⟨_, _, h3, h4, h5⟩ := row_one F hy i hi
    obtain ⟨q, hq⟩ : ∃ q, f + i * m = q := ⟨_, rfl⟩
    rw [hq] at h3 h4 h5
    refine ⟨q, q - a', hq, ?_, ?_, ?_, h5⟩
    · clear F h hst hlf; omega
    · clear F h hst hlf; omega
    · clear F h hst hlf; omega
end M

theorem in_is (A B C D : Int) (v : Bool) (h : M.inn A B C D = v) (w : World) :
    Calls Try.prog 18 #[sp A B, sp C D] w fun e w' => e = .returned (.bool v) ∧ w.grownBy w' none := by
  subst h; exact in_any A B C D w
theorem Lst.row {w : World} {B y : Nat} {v : Value} {L : List (Int × Int)} (h : Lst w B v L) (hl : L.length = y) (hy : 1 ≤ y) : ∃ g cap, v = .slice (some ⟨g, 0, none⟩) y cap ∧ y ≤ cap ∧ B ≤ g ∧ g < w.heap.size ∧ Row w ⟨g, 0, none⟩ L := by
  subst hl
  rcases h.form with ⟨_, h2⟩ | ⟨g, cap, h1, h2, h3, h4, _, hr⟩
  · rw [h2] at hy; simp at hy
  · exact ⟨g, cap, h1, h2, h3, h4, hr⟩

/-- Plan, where it refuses: nothing at all. -/
theorem plan_no (A B u k n c E : Int) (hE : (E != 0) = true) (h : M.pln A B u k n c = ([], 0, E)) (w : World) :
    Calls Try.prog 10 #[sp A B, .int .i64 u, .int .i64 k, .int .i64 n, .int .i64 c] w fun x w' => x = .returned (.tuple #[.slice none 0 0, .int .i64 0, .int .i64 E]) ∧ w.grownBy w' none := by
  rcases M.ways6 A B u k n c with ⟨b, e', hb, he, q⟩ | ⟨b, hb, _, hk, q⟩ | ⟨a, d, p, s, b, m, x, f, F, ⟨hy, q⟩ | ⟨hy, q⟩⟩
  · rw [q] at h; simp only [Prod.mk.injEq] at h; obtain ⟨_, _, rfl⟩ := h
    exact plan_err A B u k n c b e' w hb he
  · rw [q] at h; simp only [Prod.mk.injEq] at h; obtain ⟨_, _, rfl⟩ := h
    exact plan_range A B u k n c b w hb hk
  · rw [q] at h; simp only [Prod.mk.injEq] at h; obtain ⟨_, _, rfl⟩ := h
    exact plan_full A B u k n c a d p s b m x f w F hy
  · rw [q] at h; simp only [Prod.mk.injEq] at h; obtain ⟨_, _, rfl⟩ := h
    simp at hE

end Go.Proofs.Ytadllapdhdjpbaa
