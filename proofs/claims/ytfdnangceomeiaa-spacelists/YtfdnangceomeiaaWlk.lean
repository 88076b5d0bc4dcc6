/-
  THE CONTRACTS of package walk's inner functions; a walk's answers as plain functions of the words of memory.
-/
import Derived.Test.YtfdnangceomeiaaMBoth
import Derived.Test.YtfdnangceomeiaaRef
import Derived.WalkMore
import Derived.ScopeJumps
import Derived.Deep.RegionHeld3
import Derived.Deep.Cut
namespace Go.Proofs.Ytfdnangceomeiaa
set_option maxRecDepth 10000
open Go.RowKit

/-! ### The chapter's answers -/
/-- Whether sixteen words are there from a place on. -/
def M.th (n : Nat) (a : Int) : Bool := decide (0 ≤ a) && decide (a ≤ (n : Int) - 16)
/-- The entry whose word lies there, and whether it leads on. -/
def M.lv (n : Nat) (F : Nat → Nat) (x : Nat) : E × Bool := ((M.up (F x)).1, (M.up (F x)).2 == 0 && (M.up (F x)).1.v && M.th n (M.up (F x)).1.a)
/-- Page: the entry, and the error. -/
def M.pe (n : Nat) (F : Nat → Nat) (dir a : Int) : E × Int :=
  if M.isA a = false then (E.zero, 1) else
  if (dir % 16 == 0 && M.th n dir) = false then (E.zero, 9) else
  if ((M.lv n F (dir + a / 256).toNat).2 && !(M.lv n F (dir + a / 256).toNat).1.w) = false then (E.zero, 12) else
  if (M.lv n F ((M.lv n F (dir + a / 256).toNat).1.a + a / 16 % 16).toNat).2 = false then (E.zero, 12) else
  ((M.lv n F ((M.lv n F (dir + a / 256).toNat).1.a + a / 16 % 16).toNat).1, 0)
/-- To: the place, and the error. -/
def M.to (n : Nat) (F : Nat → Nat) (dir a : Int) (wr : Bool) : Int × Int :=
  if (M.pe n F dir a).2 = 0 then (if (wr && !(M.pe n F dir a).1.w) then (0, 5) else ((M.pe n F dir a).1.a + a % 16, 0)) else (0, (M.pe n F dir a).2)

theorem M.th_nat {n : Nat} {a : Int} (h : M.th n a = true) : ∃ A : Nat, a = A ∧ A + 16 ≤ n := by
  simp only [M.th, Bool.and_eq_true, decide_eq_true_eq] at h
  exact ⟨a.toNat, by omega, by omega⟩

/-- A scope in which one jump goes back to the label, and no second one. -/
theorem wp_scope_once {P : Program} {Q : Exit → Act → World → Prop} {a : Act} {w : World} {c rest : Code} (l : Nat) (hf : findLabel c l = some rest)
    (h : c.wp P (Exit.jump l (fun a' w' => rest.wp P (Exit.jump l (fun _ _ => False) Q) a' w') Q) a w) : (Code.scope c).wp P Q a w :=
  wp_scope_jumps l (fun a' w' => rest.wp P (Exit.jump l (fun _ _ => False) Q) a' w') (fun _ _ => 0) hf h
    (fun a w hJ => wp_mono hJ fun e a w hq => by
      cases e <;> first | exact hq | exact hq.2.elim)

set_option maxHeartbeats 400000 in
theorem athere_is (w : World) (p b n : Nat) (a : Int) (t : Bool) (hc : w.cell? ⟨p, 0, none⟩ = some (.slice (some ⟨b, 0, none⟩) n n)) (hn : n ≤ 65536) (h : M.th n a = t) :
    Calls Try.prog 50 #[.pointer (some ⟨p, 0, none⟩), .int .i64 a] w fun e w' => e = .returned (.bool t) ∧ w' = w := by
  subst h
  by_cases c0 : 0 ≤ a
  · by_cases c1 : a ≤ (n : Int) - 16
    · rw [show M.th n a = true by simp [M.th, c0, c1]]
      go_enter Try.func50, Try.ntmps50
      go_wp2_with (go_at_call 36; refine (Y2.size_any _ p b n hc).mono ?_; rintro e w' ⟨rfl, rfl⟩)
      go_ret
      exact ⟨rfl, rfl⟩
    · rw [show M.th n a = false by simp [M.th, c1]]
      go_enter Try.func50, Try.ntmps50
      go_wp2_with (go_at_call 36; refine (Y2.size_any _ p b n hc).mono ?_; rintro e w' ⟨rfl, rfl⟩)
      go_ret
      exact ⟨ret_bool (by simp [c1]), rfl⟩
  · rw [show M.th n a = false by simp [M.th, c0]]
    go_enter Try.func50, Try.ntmps50
    go_wp2
    go_ret
    exact ⟨rfl, rfl⟩

set_option maxHeartbeats 1000000 in
theorem entry_yes (p x : Nat) (W a : Int) (v t : Bool) (w : World)
    (HG : ∀ w', w.grownBy w' none → Calls Try.prog 37 #[.pointer (some ⟨p, 0, none⟩), .int .i64 x] w' fun e w'' => e = .returned (.tuple #[.int .u64 W, .int .i64 0]) ∧ w'.grownBy w'' none)
    (HU : ∀ w', Calls Try.prog 58 #[.int .u64 W] w' fun e w'' => e = .returned (.tuple #[ev ⟨true, v, a⟩, .int .i64 0]) ∧ w'.grownBy w'' none)
    (HT : ∀ w', w.grownBy w' none → Calls Try.prog 50 #[.pointer (some ⟨p, 0, none⟩), .int .i64 a] w' fun e w'' => e = .returned (.bool t) ∧ w'' = w') :
    Calls Try.prog 51 #[.pointer (some ⟨p, 0, none⟩), .int .i64 x] w fun e w' => e = .returned (.tuple #[ev ⟨true, v, a⟩, .bool t]) ∧ w.grownBy w' none := by
  have X0 : Box (w.alloc (.cells #[.bool false, .bool false, .int .i64 0] 69)) w.heap.size E.zero := Box.made w E.zero _
  have G0 := gbAlloc w (.cells #[.bool false, .bool false, .int .i64 0] 69) none
  go_enter Try.func51, Try.ntmps51
  go_wp2_with fail
  refine (HG _ G0).mono ?_
  rintro e w1 ⟨rfl, g1⟩
  go_wp2_with fail
  refine (HU _).mono ?_
  rintro e w2 ⟨rfl, g2⟩
  go_upto_region 3 with fail
  obtain ⟨W2, hW2, Y, h2⟩ := boxNew w2 ⟨true, v, a⟩ 69
  simp only at hW2
  rw [hW2]
  clear hW2
  have X2 := ((X0.kept g1).kept g2).kept h2
  have G2 := gbTrans (gbTrans (gbTrans G0 g1) g2) h2
  have l1 := ((X0.kept g1).kept g2).lt
  clear X0 G0 g1 g2 h2
  obtain ⟨a0, a1, a2, lt, fr⟩ := X2
  obtain ⟨z0, z1, z2, zt, zf⟩ := Y
  simp only at z0 z1 z2 a0 a1 a2
  have nb : ¬ w.heap.size = w2.heap.size := by omega
  have f0 := fr 0
  have f1 := fr 1
  have f2 := fr 2
  go_region_held3 (fun w' => w'.cell? ⟨w2.heap.size, 0, none⟩ = some (.bool true) ∧ w'.cell? ⟨w2.heap.size, 1, none⟩ = some (.bool v) ∧ w'.cell? ⟨w2.heap.size, 2, none⟩ = some (.int .i64 a))
    (first | exact ⟨z0, z1, z2⟩ | go_keep | fail)
    ((go_at_call 50; refine (HT _ (gbTrans G2 (gbDrewN W2 1 none))).mono ?_; rintro e w3 ⟨rfl, rfl⟩))
  go_wp2
  exact bodyPost_ret (v := .tuple #[ev ⟨true, v, a⟩, .bool t]) (by simp [results, Try.results51, go_sem, a0, a1, a2]) rfl ⟨rfl, by repeat (first | with_reducible exact G2 | refine gbDrew ?_ | refine gbSetNew ?_ _ _ _ (by omega))⟩

set_option maxHeartbeats 1000000 in
theorem entry_no (p x : Nat) (W a f : Int) (u v : Bool) (w : World) (h : ((f == 0) = false) ∨ ((f == 0) = true ∧ u = false))
    (HG : ∀ w', w.grownBy w' none → Calls Try.prog 37 #[.pointer (some ⟨p, 0, none⟩), .int .i64 x] w' fun e w'' => e = .returned (.tuple #[.int .u64 W, .int .i64 0]) ∧ w'.grownBy w'' none)
    (HU : ∀ w', Calls Try.prog 58 #[.int .u64 W] w' fun e w'' => e = .returned (.tuple #[ev ⟨u, v, a⟩, .int .i64 f]) ∧ w'.grownBy w'' none) :
    Calls Try.prog 51 #[.pointer (some ⟨p, 0, none⟩), .int .i64 x] w fun e w' => e = .returned (.tuple #[ev ⟨u, v, a⟩, .bool false]) ∧ w.grownBy w' none := by
  have X0 : Box (w.alloc (.cells #[.bool false, .bool false, .int .i64 0] 69)) w.heap.size E.zero := Box.made w E.zero _
  have G0 := gbAlloc w (.cells #[.bool false, .bool false, .int .i64 0] 69) none
  go_enter Try.func51, Try.ntmps51
  go_wp2_with fail
  refine (HG _ G0).mono ?_
  rintro e w1 ⟨rfl, g1⟩
  go_wp2_with fail
  refine (HU _).mono ?_
  rintro e w2 ⟨rfl, g2⟩
  go_upto_region 3 with fail
  obtain ⟨W2, hW2, Y, h2⟩ := boxNew w2 ⟨u, v, a⟩ 69
  simp only at hW2
  rw [hW2]
  clear hW2
  have X2 := ((X0.kept g1).kept g2).kept h2
  have G2 := gbTrans (gbTrans (gbTrans G0 g1) g2) h2
  have l1 := ((X0.kept g1).kept g2).lt
  clear X0 G0 g1 g2 h2
  obtain ⟨a0, a1, a2, lt, fr⟩ := X2
  obtain ⟨z0, z1, z2, zt, zf⟩ := Y
  simp only at z0 z1 z2 a0 a1 a2
  have nb : ¬ w.heap.size = w2.heap.size := by omega
  have f0 := fr 0
  have f1 := fr 1
  have f2 := fr 2
  rcases h with h | ⟨h, rfl⟩
  · go_region
    go_wp2
    exact bodyPost_ret (v := .tuple #[ev ⟨u, v, a⟩, .bool false]) (by simp [results, Try.results51, go_sem, a0, a1, a2]) rfl ⟨rfl, by repeat (first | with_reducible exact G2 | refine gbDrew ?_ | refine gbSetNew ?_ _ _ _ (by omega))⟩
  · go_region
    go_wp2
    exact bodyPost_ret (v := .tuple #[ev ⟨false, v, a⟩, .bool false]) (by simp [results, Try.results51, go_sem, a0, a1, a2]) rfl ⟨rfl, by repeat (first | with_reducible exact G2 | refine gbDrew ?_ | refine gbSetNew ?_ _ _ _ (by omega))⟩

theorem Y2.MemOf.kept {t : TypeId} {w w' : World} {p b n : Nat} {f : Nat → Int} (h : Y2.MemOf t w p b n f) (g : w.grownBy w' none) : Y2.MemOf t w' p b n f := h.keep g (by simp) (by simp)

/-- The program's memory, its words natural numbers. -/
structure Mm (w : World) (p b n : Nat) (F : Nat → Nat) : Prop where
  is : Y2.MemAt w p b n (fun i => (F i : Int))
  lt : ∀ i, F i < 18446744073709551616

theorem Mm.kept {w w' : World} {p b n : Nat} {F : Nat → Nat} (h : Mm w p b n F) (g : w.grownBy w' none) : Mm w' p b n F := ⟨h.is.kept g, h.lt⟩
theorem Mm.keep {w w' : World} {p b n : Nat} {F : Nat → Nat} (h : Mm w p b n F) {r : Option Nat} (g : w.grownBy w' r) (h1 : some p ≠ r) (h2 : some b ≠ r) : Mm w' p b n F := ⟨h.is.keep g h1 h2, h.lt⟩
theorem Mm.there {w w' : World} {p b n : Nat} {F : Nat → Nat} (h : Mm w p b n F) (g : w.grownBy w' none) (a : Int) (t : Bool) (ht : M.th n a = t) :
    Calls Try.prog 50 #[.pointer (some ⟨p, 0, none⟩), .int .i64 a] w' fun e w'' => e = .returned (.bool t) ∧ w'' = w' :=
  athere_is w' p b n a t (h.kept g).is.cell h.is.hi ht
theorem Mm.get {w w' : World} {p b n : Nat} {F : Nat → Nat} (h : Mm w p b n F) (g : w.grownBy w' none) (x : Nat) (hx : x < n) :
    Calls Try.prog 37 #[.pointer (some ⟨p, 0, none⟩), .int .i64 x] w' fun e w'' => e = .returned (.tuple #[.int .u64 (F x : Int), .int .i64 0]) ∧ w'.grownBy w'' none :=
  (Y2.get_yes w' p b n x _ (h.kept g).is hx).mono fun _ _ ⟨e, q, hq⟩ => ⟨e, hq ▸ gbDrewN w' q none⟩

theorem entry_is (w : World) (p b n x : Nat) (F : Nat → Nat) (c : E) (o : Bool) (hm : Mm w p b n F) (hx : x < n) (h : M.lv n F x = (c, o)) :
    Calls Try.prog 51 #[.pointer (some ⟨p, 0, none⟩), .int .i64 x] w fun e w' => e = .returned (.tuple #[ev c, .bool o]) ∧ w.grownBy w' none := by
  unfold M.lv at h
  obtain ⟨⟨⟨u, v, a⟩, f⟩, hu⟩ : ∃ q, M.up (F x) = q := ⟨_, rfl⟩
  have HU := fun w => unpack_is (F x) _ f (hm.lt x) hu w
  have HG := fun w' (g : w.grownBy w' none) => hm.get g x hx
  rw [hu] at h
  simp only [Prod.mk.injEq] at h
  obtain ⟨rfl, rfl⟩ := h
  by_cases c1 : (f == 0) = true
  · obtain rfl : f = 0 := by simpa using c1
    cases u
    · exact entry_no p x _ a 0 false v w (.inr ⟨rfl, rfl⟩) HG HU
    · exact entry_yes p x _ a v _ w HG HU (fun w' g => hm.there g a _ (by simp))
  · have c2 : (f == 0) = false := by simpa using c1
    rw [c2]
    exact entry_no p x _ a f u v w (.inl c2) HG HU

end Go.Proofs.Ytfdnangceomeiaa
