/-
  THE CONTRACTS of package space's inner functions that find a word's place; the chapter's answers as plain functions of the words of memory.
-/
import Derived.Test.YtfdnangceomeiaaFacts
namespace Go.Proofs.Ytfdnangceomeiaa
set_option maxRecDepth 10000
open Go.RowKit
set_option linter.unusedVariables false

/-! ### The chapter's answers -/
/-- Whether a stretch is there. -/
def M.al (n : Nat) (a : Int) : Bool := a % 16 == 0 && M.th n a
/-- Where the directory's word lies; l: whether what is to be laid in is there. -/
def M.dp (n : Nat) (dir a : Int) (l : Bool) : Int × Int := if M.isA a = false then (0, 1) else if (M.al n dir && l) = false then (0, 9) else (dir + a / 256, 0)
/-- Where the table's word lies. -/
def M.tp (n : Nat) (F : Nat → Nat) (dir a : Int) (l : Bool) : Int × Int :=
  if (M.dp n dir a l).2 = 0 then
    (if ((M.lv n F (M.dp n dir a l).1.toNat).2 && !(M.lv n F (M.dp n dir a l).1.toNat).1.w) = false then (0, 12) else ((M.lv n F (M.dp n dir a l).1.toNat).1.a + a / 16 % 16, 0))
  else (0, (M.dp n dir a l).2)
/-- What becomes of a word: an entry where nothing was. -/
def M.lay (e : E) (W : Nat) : Int × Int := if W = 0 then M.pk e else (0, 4)
/-- .. nothing. -/
def M.out (W : Nat) : Int × Int := if W = 0 then (0, 3) else (0, 0)
/-- .. the same entry with Write as it is said. -/
def M.alw (o : Bool) (W : Nat) : Int × Int := if W = 0 then (0, 3) else if (M.up W).2 = 0 then M.pk ⟨(M.up W).1.v, o, (M.up W).1.a⟩ else (0, 12)
/-- A word put at a place. -/
def M.st (F : Nat → Nat) (x v : Nat) : Nat → Nat := fun i => if i = x then v else F i
/-- A call's error, and the words behind it: the place (or an error), and what becomes of the word there. -/
def M.chg (F : Nat → Nat) (x : Int × Int) (g : Nat → Int × Int) : Int × (Nat → Nat) :=
  if x.2 = 0 then (if (g (F x.1.toNat)).2 = 0 then (0, M.st F x.1.toNat (g (F x.1.toNat)).1.toNat) else ((g (F x.1.toNat)).2, F)) else (x.2, F)

/-! ### Facts -/
theorem M.al_nat {n : Nat} {a : Int} (h : M.al n a = true) : ∃ A : Nat, a = ((16 * A : Nat) : Int) ∧ 16 * A + 16 ≤ n := by
  unfold M.al at h
  simp only [Bool.and_eq_true, beq_iff_eq] at h
  obtain ⟨A, rfl, h2⟩ := M.th_nat h.2
  exact ⟨A / 16, by omega, by omega⟩
theorem M.al_of {n A : Nat} (h : 16 * A + 16 ≤ n) : M.al n ((16 * A : Nat) : Int) = true := by
  simp [M.al, M.th]; omega
theorem M.al_pg {n : Nat} {a : Int} (hn : n ≤ 65536) (h : M.al n a = true) : M.pg a = true := by
  obtain ⟨A, rfl, hA⟩ := M.al_nat h
  exact M.pg_of A (by omega)
theorem M.dp_ok {n : Nat} {dir a x : Int} {l : Bool} (h : M.dp n dir a l = (x, 0)) : ∃ D A : Nat, dir = ((16 * D : Nat) : Int) ∧ 16 * D + 16 ≤ n ∧ a = (A : Int) ∧ A < 4096 ∧ l = true ∧ x = ((16 * D + A / 256 : Nat) : Int) := by
  unfold M.dp at h
  by_cases c1 : M.isA a = false
  · rw [if_pos c1] at h; simp at h
  rw [if_neg c1] at h
  obtain ⟨A, rfl, hA⟩ := M.isA_nat (by simpa using c1)
  by_cases c2 : (M.al n dir && l) = false
  · rw [if_pos c2] at h; simp at h
  rw [if_neg c2] at h
  simp only [Bool.not_eq_false, Bool.and_eq_true] at c2
  obtain ⟨D, rfl, hD⟩ := M.al_nat c2.1
  simp only [Prod.mk.injEq, and_true] at h
  exact ⟨D, A, rfl, hD, rfl, hA, c2.2, by omega⟩
theorem M.dp_mk {n D A : Nat} (hD : 16 * D + 16 ≤ n) (hA : A < 4096) : M.dp n ((16 * D : Nat) : Int) (A : Int) true = (((16 * D + A / 256 : Nat) : Int), 0) := by
  have c1 : ¬ M.isA (A : Int) = false := by simp [M.isA]; omega
  unfold M.dp
  rw [if_neg c1, M.al_of hD, if_neg (by simp)]
  simp only [Prod.mk.injEq, and_true]
  omega
theorem M.tp_ok {n : Nat} {F : Nat → Nat} {dir a x : Int} {l : Bool} (h : M.tp n F dir a l = (x, 0)) : ∃ (D A P : Nat) (c : E), dir = ((16 * D : Nat) : Int) ∧ 16 * D + 16 ≤ n ∧ a = (A : Int) ∧ A < 4096 ∧ l = true ∧ M.lv n F (16 * D + A / 256) = (c, true) ∧ c.w = false ∧ c.a = ((16 * P : Nat) : Int) ∧ 16 * P + 16 ≤ n ∧ x = ((16 * P + A / 16 % 16 : Nat) : Int) := by
  unfold M.tp at h
  obtain ⟨⟨y, g⟩, hd⟩ : ∃ q, M.dp n dir a l = q := ⟨_, rfl⟩
  rw [hd] at h
  simp only at h
  by_cases c1 : g = 0
  · subst c1
    rw [if_pos rfl] at h
    obtain ⟨D, A, rfl, hD, rfl, hA, hl, rfl⟩ := M.dp_ok hd
    rw [Int.toNat_natCast] at h
    obtain ⟨⟨c, o⟩, hv⟩ : ∃ q, M.lv n F (16 * D + A / 256) = q := ⟨_, rfl⟩
    rw [hv] at h
    simp only at h
    by_cases c2 : (o && !c.w) = false
    · rw [if_pos c2] at h; simp at h
    rw [if_neg c2] at h
    simp only [Bool.not_eq_false, Bool.and_eq_true, Bool.not_eq_true'] at c2
    obtain ⟨rfl, c2⟩ := c2
    obtain ⟨_, _, P, hP, hP'⟩ := M.lv_ok hv
    simp only [Prod.mk.injEq, and_true] at h
    exact ⟨D, A, P, c, rfl, hD, rfl, hA, hl, hv, c2, hP, hP', by omega⟩
  · rw [if_neg c1] at h
    simp only [Prod.mk.injEq] at h
    exact absurd h.2 c1
theorem M.dp_lt {n : Nat} {dir a x : Int} {l : Bool} (h : M.dp n dir a l = (x, 0)) : ∃ X : Nat, x = (X : Int) ∧ X < n := by
  obtain ⟨D, A, _, hD, _, hA, _, hx⟩ := M.dp_ok h
  exact ⟨_, hx, by omega⟩
theorem M.tp_lt {n : Nat} {F : Nat → Nat} {dir a x : Int} {l : Bool} (h : M.tp n F dir a l = (x, 0)) : ∃ X : Nat, x = (X : Int) ∧ X < n := by
  obtain ⟨D, A, P, c, _, hD, _, hA, _, _, _, _, hP, hx⟩ := M.tp_ok h
  exact ⟨_, hx, by omega⟩
theorem M.up_al {n W : Nat} {c : E} (h : M.up W = (c, 0)) : M.al n c.a = M.th n c.a := by
  obtain ⟨P, hP, _⟩ := M.up_ok h
  unfold M.al
  rw [hP]
  have : (((16 * P : Nat) : Int) % 16 == 0) = true := by simp
  rw [this, Bool.true_and]

/-! ### isThere -/
set_option maxHeartbeats 400000 in
theorem isthere_is (w : World) (p b n : Nat) (a : Int) (t : Bool) (hc : w.cell? ⟨p, 0, none⟩ = some (.slice (some ⟨b, 0, none⟩) n n)) (hn : n ≤ 65536) (h : M.al n a = t) :
    Calls Try.prog 31 #[.pointer (some ⟨p, 0, none⟩), .int .i64 a] w fun e w' => e = .returned (.bool t) ∧ w' = w := by
  subst h
  by_cases c : a.tmod 16 = 0
  · have c' : a % 16 = 0 := by
      have := Int.dvd_of_tmod_eq_zero c
      omega
    have cb : (a.tmod 16 == 0) = true := by simp [c]
    have cc : (a % 16 == 0) = true := by simp [c']
    clear c
    by_cases c0 : 0 ≤ a
    · by_cases c1 : a ≤ (n : Int) - 16
      · rw [show M.al n a = true by simp [M.al, M.th, c0, c1, c']]
        clear c'
        go_enter Try.func31, Try.ntmps31
        go_wp2_with (go_at_call 36; refine (Y2.size_any _ p b n hc).mono ?_; rintro e w' ⟨rfl, rfl⟩)
        go_ret
        exact ⟨rfl, rfl⟩
      · rw [show M.al n a = false by simp [M.al, M.th, c1]]
        clear c'
        go_enter Try.func31, Try.ntmps31
        go_wp2_with (go_at_call 36; refine (Y2.size_any _ p b n hc).mono ?_; rintro e w' ⟨rfl, rfl⟩)
        go_ret
        exact ⟨ret_bool (by simp [c1]), rfl⟩
    · rw [show M.al n a = false by simp [M.al, M.th, c0]]
      clear c'
      go_enter Try.func31, Try.ntmps31
      go_wp2
      go_ret
      exact ⟨rfl, rfl⟩
  · have c' : ¬ a % 16 = 0 := fun h => c (Int.tmod_eq_zero_of_dvd (Int.dvd_of_emod_eq_zero h))
    have cb : (a.tmod 16 == 0) = false := by simp [c]
    rw [show M.al n a = false by simp [M.al, c']]
    clear c c'
    go_enter Try.func31, Try.ntmps31
    go_wp2
    go_ret
    exact ⟨rfl, rfl⟩
theorem Mm.isthere {w w' : World} {p b n : Nat} {F : Nat → Nat} (h : Mm w p b n F) (g : w.grownBy w' none) (a : Int) (t : Bool) (ht : M.al n a = t) :
    Calls Try.prog 31 #[.pointer (some ⟨p, 0, none⟩), .int .i64 a] w' fun e w'' => e = .returned (.bool t) ∧ w'' = w' :=
  isthere_is w' p b n a t (h.kept g).is.cell h.is.hi ht

/-! ### inDirectory -/
/-- What a variadic call has laid in: nothing, or one number, in a block of its own. -/
def Laid (w : World) (v : Value) (n : Nat) (l : Bool) : Prop := (v = .slice none 0 0 ∧ l = true) ∨ ∃ (g : Nat) (t : Int), v = .slice (some ⟨g, 0, none⟩) 1 1 ∧ w.cell? ⟨g, 0, none⟩ = some (.int .i64 t) ∧ M.al n t = l
theorem Laid.kept {w w' : World} {v : Value} {n : Nat} {l : Bool} (h : Laid w v n l) (g : w.grownBy w' none) : Laid w' v n l := by
  rcases h with h | ⟨k, t, h1, h2, h3⟩
  · exact .inl h
  · exact .inr ⟨k, t, h1, g.cell h2 (by simp), h3⟩

set_option maxHeartbeats 1000000 in
theorem indir_is (w : World) (p b n : Nat) (F : Nat → Nat) (dir a x f : Int) (v : Value) (l : Bool) (hm : Mm w p b n F) (hl : Laid w v n l) (h : M.dp n dir a l = (x, f)) :
    Calls Try.prog 38 #[.pointer (some ⟨p, 0, none⟩), .int .i64 dir, .int .i64 a, v] w fun e w' => e = .returned (.tuple #[.int .i64 x, .int .i64 f]) ∧ w.grownBy w' none := by
  have hn := hm.is.hi
  have h0 := h
  unfold M.dp at h
  by_cases c1 : M.isA a = false
  · rw [if_pos c1] at h
    simp only [Prod.mk.injEq] at h
    obtain ⟨rfl, rfl⟩ := h
    have HS := fun w' => split_is a 0 0 0 1 (by rw [M.sp, if_neg (by simp [c1])]) w'
    clear hm hl h0 hn
    go_enter Try.func38, Try.ntmps38
    go_wp2_with fail
    refine (HS _).mono ?_
    rintro e w1 ⟨rfl, g1⟩
    go_wp2
    go_ret2
    exact ⟨rfl, g1⟩
  rw [if_neg c1] at h
  have c1' : M.isA a = true := by simpa using c1
  obtain ⟨A, rfl, hA⟩ := M.isA_nat c1'
  have HS := fun w' => split_is (A : Int) _ _ _ _ (by rw [M.sp, if_pos c1']) w'
  clear c1 c1'
  by_cases c2 : M.al n dir = false
  · rw [c2, Bool.false_and, if_pos rfl] at h
    simp only [Prod.mk.injEq] at h
    obtain ⟨rfl, rfl⟩ := h
    have HT := fun w' (g : w.grownBy w' none) => hm.isthere g dir false c2
    clear hm hl h0 hn c2
    go_enter Try.func38, Try.ntmps38
    go_wp2_with fail
    refine (HS _).mono ?_
    rintro e w1 ⟨rfl, g1⟩
    go_wp2_with fail
    refine (HT _ g1).mono ?_
    rintro e w2 ⟨rfl, rfl⟩
    go_wp2
    go_ret2
    exact ⟨rfl, g1⟩
  have c2 : M.al n dir = true := by simpa using c2
  obtain ⟨D, rfl, hD⟩ := M.al_nat c2
  have HT := fun w' (g : w.grownBy w' none) => hm.isthere g _ true c2
  rw [c2, Bool.true_and] at h
  obtain ⟨d, hd⟩ : ∃ d : Nat, 16 * D = d := ⟨_, rfl⟩
  rw [hd] at h HT ⊢
  have x1 : (A : Int) / 256 = ((A / 256 : Nat) : Int) := by omega
  obtain ⟨q, hq⟩ : ∃ q : Nat, A / 256 = q := ⟨_, rfl⟩
  rw [hq] at x1
  rw [x1] at HS h
  have ql : q < 16 := by omega
  have dl : d < 65536 := by omega
  have hs : (d : Int) + (q : Int) = ((d + q : Nat) : Int) := by omega
  obtain ⟨y, hy⟩ : ∃ y : Nat, d + q = y := ⟨_, rfl⟩
  rw [hy] at hs
  rw [hs] at h
  have hr : M.al n ((16 * D : Nat) : Int) = true := c2
  rcases hl with ⟨rfl, rfl⟩ | ⟨g, t, rfl, hg, ht⟩
  · rw [if_neg (by simp)] at h
    simp only [Prod.mk.injEq] at h
    obtain ⟨rfl, rfl⟩ := h
    clear hm h0 hn c2 hD hA x1 hq hd hy hr
    go_enter Try.func38, Try.ntmps38
    go_wp2_with fail
    refine (HS _).mono ?_
    rintro e w1 ⟨rfl, g1⟩
    go_wp2_with fail
    refine (HT _ g1).mono ?_
    rintro e w2 ⟨rfl, rfl⟩
    go_wp2
    refine wp_loop_rounds 1 ?_
    rw [rounds_succ]
    go_wp2
    go_ret2
    exact ⟨rfl, g1⟩
  · have HL := fun w' (g : w.grownBy w' none) => hm.isthere g t l ht
    have hgk := fun w' (k : w.grownBy w' none) => k.cell hg (by simp)
    clear hm h0 hn c2 hD hA x1 hq hd hy ht hg hr
    cases l
    · rw [if_pos rfl] at h
      simp only [Prod.mk.injEq] at h
      obtain ⟨rfl, rfl⟩ := h
      go_enter Try.func38, Try.ntmps38
      go_wp2_with fail
      refine (HS _).mono ?_
      rintro e w1 ⟨rfl, g1⟩
      have hg := hgk _ g1
      go_wp2_with fail
      refine (HT _ g1).mono ?_
      rintro e w2 ⟨rfl, rfl⟩
      go_wp2
      refine wp_loop_rounds 2 ?_
      rw [rounds_succ]
      go_wp2_with fail
      refine (HL _ g1).mono ?_
      rintro e w2 ⟨rfl, rfl⟩
      go_wp2
      go_ret2
      exact ⟨rfl, g1⟩
    · rw [if_neg (by simp)] at h
      simp only [Prod.mk.injEq] at h
      obtain ⟨rfl, rfl⟩ := h
      go_enter Try.func38, Try.ntmps38
      go_wp2_with fail
      refine (HS _).mono ?_
      rintro e w1 ⟨rfl, g1⟩
      have hg := hgk _ g1
      go_wp2_with fail
      refine (HT _ g1).mono ?_
      rintro e w2 ⟨rfl, rfl⟩
      go_wp2
      refine wp_loop_rounds 2 ?_
      rw [rounds_succ]
      go_wp2_with fail
      refine (HL _ g1).mono ?_
      rintro e w2 ⟨rfl, rfl⟩
      go_wp2
      rw [rounds_succ]
      go_wp2
      go_ret2
      exact ⟨rfl, g1⟩
end Go.Proofs.Ytfdnangceomeiaa
