/- WalkTables (13.1): a table in two places of a directory: both lead to the same pages; with the directory's word taken away none of its addresses leads anywhere. For every input; no condition. -/
import Derived.Test.YtgneacfiabpfmaaFacts
import Derived.ProofKit
import Derived.OpenShut
import Derived.ShutString
import Derived.ChangeOld
import Derived.Below
import Derived.Deep.Slices
namespace Go.Proofs.Ytgneacfiabpfmaa.walkTables
open Go.ChangeShapes Go.WideShapes Go.ChangeAt Go.RowKit
set_option linter.unusedVariables false

theorem own : ownKnob Try.prog.godebug = none := by kernel_rfl
theorem laidOut : laidOutB Try.prog = true := by kernel_rfl

/-- The words of the directory, its table and a page's entry. -/
abbrev Ft (p q g W : Nat) : Nat → Nat := fun i => if i = g then W else if i = q then 17 else if i = p then 17 else 0
abbrev Fz (p q g W : Nat) : Nat → Nat := fun i => if i = p then 0 else Ft p q g W i

theorem page_t {p q g o t : Nat} {v : Bool} {G : Nat → Nat} (hg : g < 16) (ho : o < 16) (ht : t < 10) (r : Nat) (hr : r < 16) (h1 : G r = 17) (h2 : G (16 + g) = 16 * (2 + t) + 1 + (if v then 2 else 0)) :
    M.pe 256 G 0 ((256 * r + 16 * g + o : Nat) : Int) = (⟨true, v, ((16 * (2 + t) : Nat) : Int)⟩, 0) :=
  M.pe_mk (n := 256) (A := 256 * r + 16 * g + o) (D := 0) (P := 1) (Q := 2 + t) (by omega) (by omega) (by omega)
    (by rw [show 0 + (256 * r + 16 * g + o) / 256 = r by omega, h1]; exact M.up_word 1 false (by omega)) (by omega)
    (by rw [show 16 * 1 + (256 * r + 16 * g + o) / 16 % 16 = 16 + g by omega, h2]; exact M.up_word (2 + t) v (by omega)) (by omega)

theorem to_t {g o t : Nat} {v wr : Bool} {G : Nat → Nat} (hg : g < 16) (ho : o < 16) (ht : t < 10) (r : Nat) (hr : r < 16) (h1 : G r = 17) (h2 : G (16 + g) = 16 * (2 + t) + 1 + (if v then 2 else 0)) (hw : (wr && !v) = false) :
    M.to 256 G 0 ((256 * r + 16 * g + o : Nat) : Int) wr = (((16 * (2 + t) + o : Nat) : Int), 0) := by
  have := M.to_mk (wr := wr) (page_t (p := 0) (q := 0) (v := v) hg ho ht r hr h1 h2) hw
  rw [this, show (256 * r + 16 * g + o) % 16 = o by omega]

/-- All that is asked, in numbers. -/
theorem facts {p q g o t : Nat} {v : Bool} (hp : p < 16) (hq : q < 16) (hg : g < 16) (ho : o < 16) (ht : t < 10) (W : Nat) (hW : W = 16 * (2 + t) + 1 + (if v then 2 else 0)) :
    M.to 256 (Ft p q (16 + g) W) 0 ((256 * p + 16 * g + o : Nat) : Int) v = (((16 * (2 + t) + o : Nat) : Int), 0) ∧
    M.to 256 (Ft p q (16 + g) W) 0 ((256 * q + 16 * g + o : Nat) : Int) v = (((16 * (2 + t) + o : Nat) : Int), 0) ∧
    (∃ y f : Int, M.to 256 (Ft p q (16 + g) W) 0 ((256 * p + 16 * g + o : Nat) : Int) true = (y, f) ∧ (f == 0) = v ∧ (v = false → (f == 5) = true)) ∧
    M.to 256 (Fz p q (16 + g) W) 0 ((256 * p + 16 * g + o : Nat) : Int) false = (0, 12) ∧
    (∃ y f : Int, M.to 256 (Fz p q (16 + g) W) 0 ((256 * q + 16 * g + o : Nat) : Int) false = (y, f) ∧ (f == 0) = ((p : Int) != (q : Int))) := by
  have e1 : Ft p q (16 + g) W p = 17 := by simp only [Ft]; rw [if_neg (by omega)]; split <;> simp
  have e2 : Ft p q (16 + g) W q = 17 := by simp only [Ft]; rw [if_neg (by omega)]; simp
  have e3 : Ft p q (16 + g) W (16 + g) = 16 * (2 + t) + 1 + (if v then 2 else 0) := by simp only [Ft]; rw [if_pos trivial]; exact hW
  have e4 : Fz p q (16 + g) W p = 0 := by simp only [Fz]; rw [if_pos trivial]
  have fz (r : Nat) (hr : r < 16) (h : Fz p q (16 + g) W r = 0) : M.to 256 (Fz p q (16 + g) W) 0 ((256 * r + 16 * g + o : Nat) : Int) false = (0, 12) := by
    refine M.to_fault (M.pe_fault (A := 256 * r + 16 * g + o) (D := 0) (f := 0) (by omega) (by omega) (by omega) ?_) (by omega)
    rw [show 0 + (256 * r + 16 * g + o) / 256 = r by omega, h]
    exact M.up_zero
  refine ⟨to_t hg ho ht p hp e1 e3 (by cases v <;> rfl), to_t hg ho ht q hq e2 e3 (by cases v <;> rfl), ?_, fz p hp e4, ?_⟩
  · cases v
    · exact ⟨_, _, M.to_rights (page_t (p := 0) (q := 0) (v := false) hg ho ht p hp e1 e3) rfl, by decide, fun _ => by decide⟩
    · exact ⟨_, _, to_t (v := true) hg ho ht p hp e1 e3 rfl, by decide, fun h => by simp at h⟩
  · by_cases c : p = q
    · subst c
      exact ⟨_, _, fz p hp e4, by simp⟩
    · have e5 : Fz p q (16 + g) W q = 17 := by simp only [Fz]; rw [if_neg (by omega)]; exact e2
      have e6 : Fz p q (16 + g) W (16 + g) = 16 * (2 + t) + 1 + (if v then 2 else 0) := by simp only [Fz]; rw [if_neg (by omega)]; exact e3
      refine ⟨_, _, to_t (v := v) hg ho ht q hq e5 e6 (by simp), ?_⟩
      have : ((p : Int) != (q : Int)) = true := by simp; omega
      rw [this]
      rfl

theorem lt16 {p : Nat} (h : p < 16) : p < 256 := by omega
theorem lt250 {p : Nat} (h : p ≤ 250) : p < 18446744073709551616 := by omega

set_option maxHeartbeats 4000000 in
set_option maxRecDepth 10000 in
theorem core (a0 a1 a2 a3 a4 : Int) (b5 : Bool) (U0 U1 U2 U3 U4 p q g o t t1 at' W1 W g1 g2 p1 q1 s1 s2 A B X : Nat) (y3 f3 y5 f5 : Int) (w : World)
    (u0 : IntKind.u64.wrap a0 = (U0 : Int)) (u1 : IntKind.u64.wrap a1 = (U1 : Int)) (u2 : IntKind.u64.wrap a2 = (U2 : Int)) (u3 : IntKind.u64.wrap a3 = (U3 : Int)) (u4 : IntKind.u64.wrap a4 = (U4 : Int))
    (v0 : (U0 : Int) % 16 = (p : Int)) (v1 : (U1 : Int) % 16 = (q : Int)) (v2 : (U2 : Int) % 16 = (g : Int)) (v3 : (U3 : Int) % 10 = (t : Int)) (v4 : (U4 : Int) % 16 = (o : Int))
    (lp : p < 16) (lq : q < 16) (lg : g < 16) (lt : t < 10) (lo : o < 16)
    (x1 : 16 * (t : Int) = (t1 : Int)) (x2 : 32 + (t1 : Int) = (at' : Int)) (x3 : (at' : Int) + 1 = (W1 : Int)) (x4 : b5 = true → (W1 : Int) + 2 = (W : Int)) (x5 : b5 = false → W1 = W)
    (x6 : 16 + (g : Int) = (g2 : Int)) (x7 : 256 * (p : Int) = (p1 : Int)) (x8 : 16 * (g : Int) = (g1 : Int)) (x9 : (p1 : Int) + (g1 : Int) = (s1 : Int)) (x10 : (s1 : Int) + (o : Int) = (A : Int))
    (x11 : 256 * (q : Int) = (q1 : Int)) (x12 : (q1 : Int) + (g1 : Int) = (s2 : Int)) (x13 : (s2 : Int) + (o : Int) = (B : Int)) (x14 : (at' : Int) + (o : Int) = (X : Int))
    (l1 : t1 ≤ 200) (l2 : at' ≤ 250) (l3 : W1 ≤ 250) (l4 : W ≤ 250) (l5 : g1 ≤ 5000) (l6 : g2 < 256) (l7 : p1 ≤ 5000) (l8 : q1 ≤ 5000) (l9 : s1 ≤ 10000) (l10 : s2 ≤ 10000) (l11 : A ≤ 10000) (l12 : B ≤ 10000)
    (h1 : Hid (M.to 256 (Ft p q g2 W) 0 (A : Int) b5 = ((X : Int), 0))) (h2 : Hid (M.to 256 (Ft p q g2 W) 0 (B : Int) b5 = ((X : Int), 0))) (h3 : Hid (M.to 256 (Ft p q g2 W) 0 (A : Int) true = (y3, f3)))
    (h4 : Hid (M.to 256 (Fz p q g2 W) 0 (A : Int) false = (0, 12))) (h5 : Hid (M.to 256 (Fz p q g2 W) 0 (B : Int) false = (y5, f5)))
    (r1 : (f3 == 0) = b5) (r2 : b5 = false → (f3 == 5) = true) (z : Bool) (r3 : (f5 == 0) = z) (r4 : ((p : Int) != (q : Int)) = z) :
    Calls Try.prog 6 #[.int .i64 a0, .int .i64 a1, .int .i64 a2, .int .i64 a3, .int .i64 a4, .bool b5] w fun e w' => e = .returned (.bool true) ∧ w.grownBy w' none := by
  cases b5
  · have x5 := (x5 rfl).symm; subst x5
    clear x4
    have r2 := r2 rfl
    go_enter Try.func6, Try.ntmps6
    go_wp2_with fail
    refine (works_is _).mono ?_
    rintro e w1 ⟨rfl, g1'⟩
    go_wp2_with fail
    refine (Y2.new_yes _ 256 (by decide) (by decide)).mono ?_
    rintro e w2 ⟨P, b, rfl, hm2, k2, hP, hb⟩
    have hb : w.heap.size ≤ b := Nat.le_trans g1'.size hb
    have m2 : Mm w2 P b 256 (fun _ => 0) := ⟨hm2, fun _ => by decide⟩
    have G2 := gbTrans g1' k2
    clear hm2 k2 hP g1' u0 u1 u2 u3 u4 v0 v1 v2 v3 v4 x1 x2
    go_wp2_with fail
    refine (m2.put p 17 (lt16 lp) (by decide)).mono ?_
    rintro e w3 ⟨rfl, m3, k3⟩
    have G3 := gbNew (gbTrans (gbAny G2 _) k3) hb
    clear m2 G2 k3
    go_wp2_with fail
    refine (m3.put q 17 (lt16 lq) (by decide)).mono ?_
    rintro e w4 ⟨rfl, m4, k4⟩
    have G4 := gbNew (gbTrans (gbAny G3 _) k4) hb
    clear m3 G3 k4
    go_wp2_with fail
    refine (m4.put g2 W l6 (lt250 l4)).mono ?_
    rintro e w5 ⟨rfl, m5, k5⟩
    have G5 := gbNew (gbTrans (gbAny G4 _) k5) hb
    clear m4 G4 k5
    replace m5 : Mm w5 P b 256 (Ft p q g2 W) := m5
    go_wp2_with fail
    refine (to_is _ P b 256 _ 0 A false X 0 m5 h1.out).mono ?_
    rintro e w6 ⟨rfl, k6⟩
    have G6 := gbTrans G5 k6
    have m6 := m5.kept k6
    clear m5 G5 k6
    go_wp2_with fail
    refine (to_is _ P b 256 _ 0 B false X 0 m6 h2.out).mono ?_
    rintro e w7 ⟨rfl, k7⟩
    have G7 := gbTrans G6 k7
    have m7 := m6.kept k7
    clear m6 G6 k7
    go_wp2_with fail
    refine (to_is _ P b 256 _ 0 A true y3 f3 m7 h3.out).mono ?_
    rintro e w8 ⟨rfl, k8⟩
    have G8 := gbTrans G7 k8
    have m8 := m7.kept k8
    clear m7 G7 k8
    go_wp2_with fail
    refine (m8.put p 0 (lt16 lp) (by decide)).mono ?_
    rintro e w9 ⟨rfl, m9, k9⟩
    have G9 := gbNew (gbTrans (gbAny G8 _) k9) hb
    clear m8 G8 k9
    replace m9 : Mm w9 P b 256 (Fz p q g2 W) := m9
    go_wp2_with fail
    refine (to_is _ P b 256 _ 0 A false 0 12 m9 h4.out).mono ?_
    rintro e w10 ⟨rfl, k10⟩
    have G10 := gbTrans G9 k10
    have m10 := m9.kept k10
    clear m9 G9 k10
    go_wp2_with fail
    refine (to_is _ P b 256 _ 0 B false y5 f5 m10 h5.out).mono ?_
    rintro e w11 ⟨rfl, k11⟩
    have G11 := gbTrans G10 k11
    have m11 := m10.kept k11
    clear m10 G10 k11
    clear x3 x6 x7 x8 x9 x10 x11 x12 x13 l1 l3 l4 l5 l6 l7 l8 l9 l10 l11 l12 h1 h2 h3 h4 h5 m11
    go_wp2
    go_ret
    exact ⟨rfl, G11⟩
  · have x4 := x4 rfl
    clear x5
    go_enter Try.func6, Try.ntmps6
    go_wp2_with fail
    refine (works_is _).mono ?_
    rintro e w1 ⟨rfl, g1'⟩
    go_wp2_with fail
    refine (Y2.new_yes _ 256 (by decide) (by decide)).mono ?_
    rintro e w2 ⟨P, b, rfl, hm2, k2, hP, hb⟩
    have hb : w.heap.size ≤ b := Nat.le_trans g1'.size hb
    have m2 : Mm w2 P b 256 (fun _ => 0) := ⟨hm2, fun _ => by decide⟩
    have G2 := gbTrans g1' k2
    clear hm2 k2 hP g1' u0 u1 u2 u3 u4 v0 v1 v2 v3 v4 x1 x2
    go_wp2_with fail
    refine (m2.put p 17 (lt16 lp) (by decide)).mono ?_
    rintro e w3 ⟨rfl, m3, k3⟩
    have G3 := gbNew (gbTrans (gbAny G2 _) k3) hb
    clear m2 G2 k3
    go_wp2_with fail
    refine (m3.put q 17 (lt16 lq) (by decide)).mono ?_
    rintro e w4 ⟨rfl, m4, k4⟩
    have G4 := gbNew (gbTrans (gbAny G3 _) k4) hb
    clear m3 G3 k4
    go_wp2_with fail
    refine (m4.put g2 W l6 (lt250 l4)).mono ?_
    rintro e w5 ⟨rfl, m5, k5⟩
    have G5 := gbNew (gbTrans (gbAny G4 _) k5) hb
    clear m4 G4 k5
    replace m5 : Mm w5 P b 256 (Ft p q g2 W) := m5
    go_wp2_with fail
    refine (to_is _ P b 256 _ 0 A true X 0 m5 h1.out).mono ?_
    rintro e w6 ⟨rfl, k6⟩
    have G6 := gbTrans G5 k6
    have m6 := m5.kept k6
    clear m5 G5 k6
    go_wp2_with fail
    refine (to_is _ P b 256 _ 0 B true X 0 m6 h2.out).mono ?_
    rintro e w7 ⟨rfl, k7⟩
    have G7 := gbTrans G6 k7
    have m7 := m6.kept k7
    clear m6 G6 k7
    go_wp2_with fail
    refine (to_is _ P b 256 _ 0 A true y3 f3 m7 h3.out).mono ?_
    rintro e w8 ⟨rfl, k8⟩
    have G8 := gbTrans G7 k8
    have m8 := m7.kept k8
    clear m7 G7 k8
    go_wp2_with fail
    refine (m8.put p 0 (lt16 lp) (by decide)).mono ?_
    rintro e w9 ⟨rfl, m9, k9⟩
    have G9 := gbNew (gbTrans (gbAny G8 _) k9) hb
    clear m8 G8 k9
    replace m9 : Mm w9 P b 256 (Fz p q g2 W) := m9
    go_wp2_with fail
    refine (to_is _ P b 256 _ 0 A false 0 12 m9 h4.out).mono ?_
    rintro e w10 ⟨rfl, k10⟩
    have G10 := gbTrans G9 k10
    have m10 := m9.kept k10
    clear m9 G9 k10
    go_wp2_with fail
    refine (to_is _ P b 256 _ 0 B false y5 f5 m10 h5.out).mono ?_
    rintro e w11 ⟨rfl, k11⟩
    have G11 := gbTrans G10 k11
    have m11 := m10.kept k11
    clear m10 G10 k11
    clear x3 x6 x7 x8 x9 x10 x11 x12 x13 l1 l3 l4 l5 l6 l7 l8 l9 l10 l11 l12 h1 h2 h3 h4 h5 m11 x4
    go_wp2
    go_ret
    exact ⟨rfl, G11⟩

theorem walk (a0 a1 a2 a3 a4 : Int) (b5 : Bool) (w : World) :
    Calls Try.prog 6 #[.int .i64 a0, .int .i64 a1, .int .i64 a2, .int .i64 a3, .int .i64 a4, .bool b5] w fun e w' => e = .returned (.bool true) ∧ Below w.heap.size w w' := by
  refine endWalk ?_
  obtain ⟨U0, p, u0, v0, lp⟩ := modArg a0 16 (by omega)
  obtain ⟨U1, q, u1, v1, lq⟩ := modArg a1 16 (by omega)
  obtain ⟨U2, g, u2, v2, lg⟩ := modArg a2 16 (by omega)
  obtain ⟨U3, t, u3, v3, lt⟩ := modArg a3 10 (by omega)
  obtain ⟨U4, o, u4, v4, lo⟩ := modArg a4 16 (by omega)
  have hb : ∀ W1 : Nat, ∃ W : Nat, (b5 = true → (W1 : Int) + 2 = (W : Int)) ∧ (b5 = false → W1 = W) ∧ W = W1 + (if b5 then 2 else 0) := fun W1 => ⟨W1 + (if b5 then 2 else 0), fun h => by rw [h]; rfl, fun h => by rw [h]; rfl, rfl⟩
  obtain ⟨W, x4, x5, hW⟩ := hb (16 * (2 + t) + 1)
  obtain ⟨h1, h2, ⟨y3, f3, h3, r1, r2⟩, h4, y5, f5, h5, r3⟩ := facts (v := b5) lp lq lg lo lt W hW
  exact core a0 a1 a2 a3 a4 b5 U0 U1 U2 U3 U4 p q g o t (16 * t) (16 * (2 + t)) (16 * (2 + t) + 1) W (16 * g) (16 + g) (256 * p) (256 * q) (256 * p + 16 * g) (256 * q + 16 * g) (256 * p + 16 * g + o) (256 * q + 16 * g + o) (16 * (2 + t) + o) y3 f3 y5 f5 w
    u0 u1 u2 u3 u4 v0 v1 v2 v3 v4 lp lq lg lt lo (by omega) (by omega) (by omega) x4 x5 (by omega) (by omega) (by omega) (by omega) (by omega) (by omega) (by omega) (by omega) (by omega)
    (by omega) (by omega) (by omega) (by rw [hW]; split <;> omega) (by omega) (by omega) (by omega) (by omega) (by omega) (by omega) (by omega) (by omega)
    (hideIt h1) (hideIt h2) (hideIt h3) (hideIt h4) (hideIt h5) r1 r2 _ r3 rfl

set_option maxRecDepth 100000 in
theorem lifted (os : Os) (started : os.Started) (H : Type) (enc : TypeId × Value → H) :
    ReturnsInHanded {} Try.checked os 6 .any (Rows.walkTablesSpec.pre6 enc Try.prog Try.f6 Rows.walkTablesRow.domain false) (Rows.walkTablesSpec.post enc Try.prog Try.f6 false true false false) := by
  refine returnsInHanded_of_change (C := Try.checked) own started (by kernel_rfl) Try.func6
    (ChangeSpec.witness6 (enc := enc) (C := Try.checked) false ⟨#[], #[.int .i64 0, .int .i64 0, .int .i64 0, .int .i64 0, .int .i64 0, .bool false], []⟩ 8 (by kernel_rfl) (by kernel_rfl) (by kernel_rfl) (by kernel_rfl)) ?_
  intro W base args ds gs before hval0 hW hcnd _
  have hval : ∀ (j : Nat) t v, Try.f6.params[j]? = some t → args[j]? = some v → Value.okWide Try.prog W .any base t v := hval0
  have hW' := hW
  obtain ⟨p, q, hA0, hV, rfl, hfz, hnd⟩ := hW
  have hA : DataW.TrodAll enc Try.prog W 0 (fun _ => true) true Try.f6.params.toList args.toList ds p := hA0
  rw [Try.params6] at hA hval
  obtain ⟨v0, vs0, d0, ds0, p0, q0, hargs, rfl, rfl, h0, r0⟩ := trodAll_cons hA
  obtain ⟨v1, vs1, d1, ds1, p1, q1, rfl, rfl, rfl, h1, r1⟩ := trodAll_cons r0
  obtain ⟨v2, vs2, d2, ds2, p2, q2, rfl, rfl, rfl, h2, r2⟩ := trodAll_cons r1
  obtain ⟨v3, vs3, d3, ds3, p3, q3, rfl, rfl, rfl, h3, r3⟩ := trodAll_cons r2
  obtain ⟨v4, vs4, d4, ds4, p4, q4, rfl, rfl, rfl, h4, r4⟩ := trodAll_cons r3
  obtain ⟨v5, vs5, d5, ds5, p5, q5, rfl, rfl, rfl, h5, r5⟩ := trodAll_cons r4
  obtain ⟨rfl, rfl, rfl⟩ := trodAll_nil r5
  obtain rfl : args = #[v0, v1, v2, v3, v4, v5] := by cases args; simp_all
  obtain ⟨rfl, rfl⟩ := trodVars_none hV
  obtain ⟨a0, rfl, rfl, rfl, w0⟩ := open_int Try.underlying3 (hval 0 3 v0 rfl rfl) h0
  obtain ⟨a1, rfl, rfl, rfl, w1⟩ := open_int Try.underlying3 (hval 1 3 v1 rfl rfl) h1
  obtain ⟨a2, rfl, rfl, rfl, w2⟩ := open_int Try.underlying3 (hval 2 3 v2 rfl rfl) h2
  obtain ⟨a3, rfl, rfl, rfl, w3⟩ := open_int Try.underlying3 (hval 3 3 v3 rfl rfl) h3
  obtain ⟨a4, rfl, rfl, rfl, w4⟩ := open_int Try.underlying3 (hval 4 3 v4 rfl rfl) h4
  obtain ⟨b5, rfl, rfl, rfl⟩ := open_bool Try.underlying4 (hval 5 4 v5 rfl rfl) h5
  clear hA0 hval0
  refine (walk a0 a1 a2 a3 a4 b5 W).mono fun e W' ⟨he, bel⟩ => ?_
  subst he
  exact ⟨_, rfl, _, _, _, [], _, [], hW', trodAll_mk1 (shut_bool Try.underlying4 _), (trodAll_cons_mk (shut_int Try.underlying3 w0) (trodAll_cons_mk (shut_int Try.underlying3 w1) (trodAll_cons_mk (shut_int Try.underlying3 w2) (trodAll_cons_mk (shut_int Try.underlying3 w3) (trodAll_cons_mk (shut_int Try.underlying3 w4) (trodAll_cons_mk (shut_bool Try.underlying4 _) trodAll_mk0)))))), rfl, bel.frame _, fun h => by cases h⟩

theorem over : Rows.walkTablesRow.holds Try.pinned (OpenSpec.ofChange Rows.walkTablesSpec) :=
  OpenClaim.holds_of_wide 6 Try.f6 rfl rfl rfl rfl rfl rfl rfl ⟨rfl, rfl, rfl, rfl, rfl⟩ rfl rfl rfl rfl rfl (by kernel_rfl) Try.func6 (by kernel_rfl)
    (of_decide_eq_true (by kernel_rfl)) (by unfold Func.isWrapper; first | (rw [if_pos (by decide +kernel)]; kernel_rfl) | (rw [if_neg (by decide +kernel)]; exact ⟨rfl, rfl⟩))
    (fun os started H enc _ => lifted os started H enc)

theorem proved : Rows.WalkTablesSaid := over
end Go.Proofs.Ytgneacfiabpfmaa.walkTables
namespace Go.Proofs.Ytgneacfiabpfmaa
theorem walkTables_holds : Rows.WalkTablesSaid := walkTables.proved
#print axioms walkTables_holds
end Go.Proofs.Ytgneacfiabpfmaa
