/-
  THE CONTRACTS of package endpoint: New, check, settle, come, Send, Recv, Cancel, Clear, State. What each answers, plain.
-/
import Derived.Test.YtenljiciiocagaaTwo
import Derived.Deep.RegionHeld3
import Derived.Deep.DeepCutAuto
namespace Go.Proofs.Ytenljiciiocagaa
set_option maxRecDepth 10000
open Go.RowKit
set_option linter.unusedVariables false

/-! ### The chapter's answers: k what it is at, L who waits; one that comes is of the side t, and meets those of the side o -/
def M.eb (k : Int) (L : List Int) (o a : Int) : Bool := decide (M.pe L a = 0 ∧ k = o)
def M.ex (k : Int) (L : List Int) (o a : Int) : Int := if M.pe L a = 0 ∧ k = o then L.headD 0 else 0
def M.el (k : Int) (L : List Int) (o a : Int) (wt : Bool) : List Int := if M.pe L a = 0 then (if k = o then L.tail else if wt then L ++ [a] else L) else L
def M.ek (k : Int) (L : List Int) (t o a : Int) (wt : Bool) : Int := if M.pe L a = 0 then (if k = o then (if L.tail = [] then 0 else k) else if wt then t else k) else k
/-- What it is at behind one that waits no longer. -/
def M.es (k : Int) (L : List Int) : Int := if L = [] then 0 else k
theorem M.pe_ok {L : List Int} {a : Int} (h : M.pe L a = 0) : 0 ≤ a ∧ a < 64 ∧ a ∉ L := by
  unfold M.pe at h
  split at h
  · rename_i c
    split at h
    · cases h
    · rename_i d
      exact ⟨c.1, c.2, d⟩
  · cases h
theorem M.pl_ok {L : List Int} {a : Int} (h : M.pe L a = 0) : M.pl L a = L ++ [a] := by
  unfold M.pl
  rw [if_pos (M.pe_ok h)]
theorem M.pl_no {L : List Int} {a : Int} (h : ¬ M.pe L a = 0) : M.pl L a = L := by
  unfold M.pl
  split
  · rename_i c
    exact absurd (by unfold M.pe; rw [if_pos ⟨c.1, c.2.1⟩, if_neg c.2.2]) h
  · rfl
theorem M.wo_pl {L : List Int} {a : Int} (h : M.pe L a = 0) : M.wo (L ++ [a]) a = L := by
  have h1 := M.wo_not (M.pe_ok h).2.2
  unfold M.wo at h1 ⊢
  rw [List.filter_append, h1]
  simp

/-! ### Turns -/
/-- What A is, with what is new, and only blocks of O turned. -/
structure Tn (A : World → (Nat → Prop) → Prop) (O : Nat → Prop) (w w' : World) : Prop where
  a : A w' (wide O w w')
  f : Fr O w w'
theorem wide_wide {O : Nat → Prop} {w w1 w2 : World} (h1 : w.heap.size ≤ w1.heap.size) (h2 : w1.heap.size ≤ w2.heap.size) : ∀ i, wide (wide O w w1) w1 w2 i → wide O w w2 i := by
  rintro i ((h | h) | h)
  · exact .inl h
  · exact .inr (by omega)
  · exact .inr (by omega)
theorem Fr.wide {O : Nat → Prop} {w w1 w2 : World} (f : Fr O w w1) (k : Fr (wide O w w1) w1 w2) : Fr O w w2 :=
  f.join k (fun i hi e => by
    rcases e with e | e
    · exact e
    · omega)

/-! ### An endpoint of the program -/
structure PA (w : World) (O : Nat → Prop) (p : Nat) (k : Int) (L : List Int) : Prop where
  ex : ∃ q, w.cell? ⟨p, 1, none⟩ = some (.pointer (some ⟨q, 0, none⟩)) ∧ LA w (fun i => O i ∧ i ≠ p) q L
  at0 : w.cell? ⟨p, 0, none⟩ = some (.int .i64 k)
  fz : ∀ i, w.frozen? ⟨p, i, none⟩ = false
  lt : p < w.heap.size
  op : O p
section
variable {w w' w1 w2 : World} {O : Nat → Prop} {p : Nat} {k k' : Int} {L L' : List Int}
theorem PA.fr {O' : Nat → Prop} (h : PA w O p k L) (F : Fr O' w w') (hd : ∀ i, O i → ¬ O' i) : PA w' O p k L := by
  obtain ⟨q, h1, h2⟩ := h.ex
  exact ⟨⟨q, F.cell h1 (hd p h.op), h2.fr F (fun i hi => hd i hi.1)⟩, F.cell h.at0 (hd p h.op), fun i => (F.frozen h.lt (hd p h.op)).trans (h.fz i), Nat.lt_of_lt_of_le h.lt F.size, h.op⟩
theorem PA.kept (h : PA w O p k L) (g : w.grownBy w' none) : PA w' O p k L := h.fr (O' := fun _ => False) (Fr.grown g) (fun _ _ e => e)
theorem PA.mono {O' : Nat → Prop} (h : PA w O p k L) (hO : ∀ i, O i → O' i) : PA w O' p k L := by
  obtain ⟨q, h1, h2⟩ := h.ex
  exact ⟨⟨q, h1, h2.mono (fun i hi => ⟨hO i hi.1, hi.2⟩)⟩, h.at0, h.fz, h.lt, hO p h.op⟩
theorem PA.wider (h : PA w O p k L) (w1 w2 : World) : PA w (wide O w1 w2) p k L := h.mono fun i hi => .inl hi
/-- The line turned. -/
theorem PA.line {q : Nat} (h : PA w O p k L) (hq : w.cell? ⟨p, 1, none⟩ = some (.pointer (some ⟨q, 0, none⟩))) (T : LA w' (wide (fun i => O i ∧ i ≠ p) w w') q L') (F : Fr (fun i => O i ∧ i ≠ p) w w') : PA w' (wide O w w') p k L' ∧ Fr O w w' := by
  have hp : ¬ (O p ∧ p ≠ p) := fun e => e.2 rfl
  have hl := h.lt
  refine ⟨⟨⟨q, F.cell hq hp, T.mono (fun i hi => ?_)⟩, F.cell h.at0 hp, fun i => (F.frozen h.lt hp).trans (h.fz i), Nat.lt_of_lt_of_le h.lt F.size, .inl h.op⟩, F.mono fun i _ hi => hi.1⟩
  rcases hi with hi | hi
  · exact ⟨.inl hi.1, hi.2⟩
  · exact ⟨.inr hi, by omega⟩
/-- What it is at is set. -/
theorem PA.setAt (h : PA w O p k L) (k' : Int) : PA (w.setCell ⟨p, 0, none⟩ (.int .i64 k')) O p k' L ∧ Fr O w (w.setCell ⟨p, 0, none⟩ (.int .i64 k')) := by
  obtain ⟨q, h1, h2⟩ := h.ex
  have G := gbSetCell w p 0 (.int .i64 k')
  have F : Fr (fun i => i = p) w (w.setCell ⟨p, 0, none⟩ (.int .i64 k')) := Fr.at G rfl
  refine ⟨⟨⟨q, ?_, h2.fr F (fun i hi e => hi.2 e)⟩, World.cell?_setCell_same _ _ _ h.at0, fun i => ?_, Nat.lt_of_lt_of_le h.lt G.size, h.op⟩, F.mono (fun i _ e => by rw [e]; exact h.op)⟩
  · rw [World.cell?_setCell_other _ _ _ _ (by simp)]; exact h1
  · rw [World.frozen?_setCell]; exact h.fz i
/-- One turn behind another. -/
theorem PA.then (f : Fr O w w1) (h : PA w2 (wide (wide O w w1) w1 w2) p k L ∧ Fr (wide O w w1) w1 w2) : PA w2 (wide O w w2) p k L ∧ Fr O w w2 :=
  ⟨h.1.mono (wide_wide f.size h.2.size), f.wide h.2⟩
theorem PA.see (h : PA w O p k L) : ∃ q, w.cell? ⟨p, 1, none⟩ = some (.pointer (some ⟨q, 0, none⟩)) ∧ LA w (fun i => O i ∧ i ≠ p) q L ∧ w.cell? ⟨p, 0, none⟩ = some (.int .i64 k) ∧ w.frozen? ⟨p, 0, none⟩ = false ∧ w.frozen? ⟨p, 1, none⟩ = false := by
  obtain ⟨q, h1, h2⟩ := h.ex
  exact ⟨q, h1, h2, h.at0, h.fz 0, h.fz 1⟩
end

/-! ### New -/
set_option maxHeartbeats 400000 in
theorem enew_is (w : World) : Calls Try.prog 6 #[] w fun e w' => ∃ p, e = .returned (.pointer (some ⟨p, 0, none⟩)) ∧ PA w' (fun i => w.heap.size ≤ i ∧ i < w'.heap.size) p 0 [] ∧ w.grownBy w' none := by
  go_enter Try.func6, Try.ntmps6
  go_wp2_with fail
  refine (new_is w).mono ?_
  rintro e w1 ⟨rfl, A1, s1, g1⟩
  have A1 := hideIt A1
  have g1 := hideIt g1
  go_wp2
  go_ret
  have G := gbAlloc w1 (.cells #[.int .i64 0, .pointer (some ⟨w.heap.size, 0, none⟩)] 46) none
  refine ⟨w1.heap.size, by rw [s1]; rfl, ⟨⟨w.heap.size, by simp, (A1.out.kept G).mono (fun i hi => ?_)⟩, by simp, fun i => by simp, by simp, ?_⟩, gbTrans g1.out G⟩
  · subst hi; simp; omega
  · simp; omega

/-! ### check -/
set_option maxHeartbeats 400000 in
theorem check_no {w : World} {O : Nat → Prop} {p : Nat} {k : Int} {L : List Int} (h : PA w O p k L) (hl : L.length ≤ 900) (a f : Int) (hf : M.pe L a = f) (hf0 : (f == 0) = false) :
    Calls Try.prog 26 #[.pointer (some ⟨p, 0, none⟩), .int .i64 a] w fun e w' => e = .returned (.int .i64 f) ∧ PA w' (wide O w w') p k L ∧ Fr O w w' := by
  obtain ⟨q, c1, l1, c0, _, _⟩ := h.see
  have HP := hideIt (push_is l1 (by omega) a f hf)
  have hn : M.pl L a = L := M.pl_no (by rw [hf]; simpa using hf0)
  rw [hn] at HP
  have HL := hideIt (fun w' => h.line (w' := w') (L' := L) c1)
  clear l1 hn h hf
  go_enter Try.func26, Try.ntmps26
  go_wp2_with fail
  refine HP.out.mono ?_
  rintro e w1 ⟨rfl, Z, F⟩
  have H1 := hideIt (HL.out _ Z F)
  clear Z F c1 c0
  go_wp2
  go_ret
  exact ⟨rfl, H1.out⟩
set_option maxHeartbeats 400000 in
theorem check_yes {w : World} {O : Nat → Prop} {p : Nat} {k : Int} {L : List Int} (h : PA w O p k L) (hl : L.length ≤ 900) (hd : L.Nodup) (a : Int) (hf : M.pe L a = 0) :
    Calls Try.prog 26 #[.pointer (some ⟨p, 0, none⟩), .int .i64 a] w fun e w' => e = .returned (.int .i64 0) ∧ PA w' (wide O w w') p k L ∧ Fr O w w' := by
  obtain ⟨q, c1, l1, c0, _, _⟩ := h.see
  have HP := hideIt (push_is l1 (by omega) a 0 hf)
  have hd2 := M.pl_nodup a hd
  rw [M.pl_ok hf] at HP hd2
  have HL := hideIt (fun w' => h.line (w' := w') (L' := L ++ [a]) c1)
  have HW := hideIt (M.wo_pl hf)
  have hd2 := hideIt hd2
  clear l1 h hf c0 hd
  go_enter Try.func26, Try.ntmps26
  go_wp2_with fail
  refine HP.out.mono ?_
  rintro e w1 ⟨rfl, Z, F⟩
  have H1 := hideIt (HL.out _ Z F)
  clear Z F c1 HL HP
  obtain ⟨q1, d1, l1, d0, _, _⟩ := H1.out.1.see
  have HR := hideIt (remove_is l1 (by simp; omega) hd2.out a true (by simp))
  rw [HW.out] at HR
  have HL := hideIt (fun w' => H1.out.1.line (w' := w') (L' := L) d1)
  clear l1 d0
  go_wp2_with fail
  refine HR.out.mono ?_
  rintro e w2 ⟨rfl, Z, F⟩
  have H2 := hideIt (PA.then H1.out.2 (HL.out _ Z F))
  clear Z F d1 HL HR
  go_wp2
  go_ret
  exact ⟨rfl, H2.out⟩
theorem check_is {w : World} {O : Nat → Prop} {p : Nat} {k : Int} {L : List Int} (h : PA w O p k L) (hl : L.length ≤ 900) (hd : L.Nodup) (a f : Int) (hf : M.pe L a = f) :
    Calls Try.prog 26 #[.pointer (some ⟨p, 0, none⟩), .int .i64 a] w fun e w' => e = .returned (.int .i64 f) ∧ PA w' (wide O w w') p k L ∧ Fr O w w' := by
  by_cases f0 : f = 0
  · subst f0; exact check_yes h hl hd a hf
  · exact check_no h hl a f hf (by simpa using f0)

/-! ### settle -/
set_option maxHeartbeats 400000 in
theorem settle_is {w : World} {O : Nat → Prop} {p : Nat} {k : Int} {L : List Int} (h : PA w O p k L) (hl : L.length ≤ 900) (k' : Int) (hk : M.es k L = k') :
    Calls Try.prog 23 #[.pointer (some ⟨p, 0, none⟩)] w fun e w' => e = .returned (.tuple #[]) ∧ PA w' (wide O w w') p k' L ∧ Fr O w w' := by
  obtain ⟨q, c1, l1, c0, _, _⟩ := h.see
  have HP := hideIt (list_is l1 (by omega))
  have H := hideIt h
  obtain ⟨n, hn⟩ : ∃ n, L.length = n := ⟨_, rfl⟩
  clear l1 h c0
  go_enter Try.func23, Try.ntmps23
  go_wp2_with fail
  refine HP.out.mono ?_
  rintro e w1 ⟨v', rfl, l2, g2⟩
  obtain ⟨x, c, rfl, _⟩ := l2.arr
  rw [hn]
  have H1 := hideIt (H.out.kept g2)
  have g2 := hideIt g2
  clear l2 c1 HP
  by_cases h0 : n = 0
  · subst h0
    obtain rfl : L = [] := List.eq_nil_of_length_eq_zero hn
    obtain rfl : 0 = k' := by rw [← hk]; rfl
    have c0 := H1.out.at0
    have f0 := H1.out.fz 0
    have H2 := hideIt (H1.out.setAt 0)
    clear hk hn
    go_wp2
    exact bodyPost_end (results_none rfl _ _ _) rfl ⟨rfl, H2.out.1.wider _ _, (Fr.grown g2.out).trans H2.out.2⟩
  · have h0' : ((n : Int) == 0) = false := by simp; omega
    obtain rfl : k = k' := by rw [← hk]; unfold M.es; rw [if_neg (fun e => h0 (by rw [← hn, e]; rfl))]
    clear hk hn
    go_wp2
    exact bodyPost_end (results_none rfl _ _ _) rfl ⟨rfl, H1.out.wider _ _, Fr.grown g2.out⟩

/-! ### come -/
section
variable {w : World} {O : Nat → Prop} {p : Nat} {k : Int} {L : List Int}
set_option maxHeartbeats 400000 in
theorem come_no (h : PA w O p k L) (hl : L.length ≤ 900) (hd : L.Nodup) (a : Int) (wt : Bool) (t o f : Int) (hf : M.pe L a = f) (hf0 : (f == 0) = false) :
    Calls Try.prog 20 #[.pointer (some ⟨p, 0, none⟩), .int .i64 a, .bool wt, .int .i64 t, .int .i64 o] w fun e w' => e = .returned (.tuple #[.int .i64 0, .bool false, .int .i64 f]) ∧ PA w' (wide O w w') p k L ∧ Fr O w w' := by
  have HC := hideIt (check_is h hl hd a f hf)
  clear h hf hd
  go_enter Try.func20, Try.ntmps20
  go_wp2_with fail
  refine HC.out.mono ?_
  rintro e w1 ⟨rfl, Z, F⟩
  have H1 := hideIt (And.intro Z F)
  clear Z F HC
  go_wp2
  go_ret3
  exact ⟨rfl, H1.out⟩
set_option maxHeartbeats 400000 in
theorem come_meet (h : PA w O p k L) (hl : L.length ≤ 900) (hd : L.Nodup) (a : Int) (wt : Bool) (t o : Int) (hf : M.pe L a = 0) (hk : (k == o) = true) :
    Calls Try.prog 20 #[.pointer (some ⟨p, 0, none⟩), .int .i64 a, .bool wt, .int .i64 t, .int .i64 o] w fun e w' => e = .returned (.tuple #[.int .i64 (L.headD 0), .bool true, .int .i64 0]) ∧ PA w' (wide O w w') p (M.es k L.tail) L.tail ∧ Fr O w w' := by
  have HC := hideIt (check_is h hl hd a 0 hf)
  have hd := hideIt hd
  obtain ⟨x, hx⟩ : ∃ x, L.headD 0 = x := ⟨_, rfl⟩
  rw [hx]
  replace hx := hideIt hx
  obtain ⟨k2, hk2⟩ : ∃ k2, M.es k L.tail = k2 := ⟨_, rfl⟩
  rw [hk2]
  replace hk2 := hideIt hk2
  obtain ⟨y, hy⟩ : ∃ y, M.hb L = y := ⟨_, rfl⟩
  replace hy := hideIt hy
  clear h hf
  go_enter Try.func20, Try.ntmps20
  go_wp2_with fail
  refine HC.out.mono ?_
  rintro e w1 ⟨rfl, Z, F⟩
  have H1 := hideIt (And.intro Z F)
  clear Z F HC
  obtain ⟨q1, d1, l1, d0, _, _⟩ := H1.out.1.see
  have HR := hideIt (pop_is l1 (by omega) hd.out x y hx.out hy.out)
  have HL := hideIt (fun w' => H1.out.1.line (w' := w') (L' := L.tail) d1)
  clear l1
  go_wp2_with fail
  refine HR.out.mono ?_
  rintro e w2 ⟨rfl, Z, F⟩
  have H2 := hideIt (PA.then H1.out.2 (HL.out _ Z F))
  clear Z F d1 d0 HL HR H1
  have HS := hideIt (settle_is H2.out.1 (by rw [List.length_tail]; omega) k2 hk2.out)
  go_wp2_with fail
  refine HS.out.mono ?_
  rintro e w3 ⟨rfl, Z, F⟩
  have H3 := hideIt (PA.then H2.out.2 ⟨Z, F⟩)
  clear Z F HS H2
  go_wp2
  go_ret3
  exact ⟨rfl, H3.out⟩
set_option maxHeartbeats 400000 in
theorem come_wait (h : PA w O p k L) (hl : L.length ≤ 900) (hd : L.Nodup) (a : Int) (t o : Int) (hf : M.pe L a = 0) (hk : (k == o) = false) :
    Calls Try.prog 20 #[.pointer (some ⟨p, 0, none⟩), .int .i64 a, .bool true, .int .i64 t, .int .i64 o] w fun e w' => e = .returned (.tuple #[.int .i64 0, .bool false, .int .i64 0]) ∧ PA w' (wide O w w') p t (L ++ [a]) ∧ Fr O w w' := by
  have HC := hideIt (check_is h hl hd a 0 hf)
  have hp := hideIt (M.pl_ok hf)
  replace hf := hideIt hf
  clear h hd
  go_enter Try.func20, Try.ntmps20
  go_wp2_with fail
  refine HC.out.mono ?_
  rintro e w1 ⟨rfl, Z, F⟩
  have H1 := hideIt (And.intro Z F)
  clear Z F HC
  have H2 := hideIt (H1.out.1.setAt t)
  obtain ⟨q0, _, _, d0, z0, _⟩ := H1.out.1.see
  obtain ⟨q1, d1, l1, _, _, _⟩ := H2.out.1.see
  have HR := hideIt (push_is l1 (by omega) a 0 hf.out)
  rw [hp.out] at HR
  have HL := hideIt (fun w' => H2.out.1.line (w' := w') (L' := L ++ [a]) d1)
  clear l1
  go_wp2_with fail
  refine HR.out.mono ?_
  rintro e w2 ⟨rfl, Z, F⟩
  have H3 := hideIt (HL.out _ Z F)
  clear Z F d1 d0 HL HR
  have H4 : Hid (PA w2 (wide O w w2) p t (L ++ [a]) ∧ Fr O w w2) := hideIt (PA.then H1.out.2 ⟨H3.out.1.mono (fun i hi => by
    rcases hi with hi | hi
    · exact .inl hi
    · exact .inr ⟨Nat.le_trans H2.out.2.size hi.1, hi.2⟩), H2.out.2.trans H3.out.2⟩)
  clear H1 H2 H3 z0
  go_wp2
  go_ret3
  exact ⟨rfl, H4.out⟩
set_option maxHeartbeats 400000 in
theorem come_not (h : PA w O p k L) (hl : L.length ≤ 900) (hd : L.Nodup) (a : Int) (t o : Int) (hf : M.pe L a = 0) (hk : (k == o) = false) :
    Calls Try.prog 20 #[.pointer (some ⟨p, 0, none⟩), .int .i64 a, .bool false, .int .i64 t, .int .i64 o] w fun e w' => e = .returned (.tuple #[.int .i64 0, .bool false, .int .i64 0]) ∧ PA w' (wide O w w') p k L ∧ Fr O w w' := by
  have HC := hideIt (check_is h hl hd a 0 hf)
  clear h hd hf
  go_enter Try.func20, Try.ntmps20
  go_wp2_with fail
  refine HC.out.mono ?_
  rintro e w1 ⟨rfl, Z, F⟩
  have H1 := hideIt (And.intro Z F)
  clear Z F HC
  have d0 := H1.out.1.at0
  go_wp2
  go_ret3
  exact ⟨rfl, H1.out⟩
/-- One that comes, whatever becomes of it. -/
theorem come_is (h : PA w O p k L) (hl : L.length ≤ 900) (hd : L.Nodup) (a : Int) (wt : Bool) (t o : Int) (x : Int) (b : Bool) (f : Int) (hx : M.ex k L o a = x) (hb : M.eb k L o a = b) (hf : M.pe L a = f) :
    Calls Try.prog 20 #[.pointer (some ⟨p, 0, none⟩), .int .i64 a, .bool wt, .int .i64 t, .int .i64 o] w fun e w' => e = .returned (.tuple #[.int .i64 x, .bool b, .int .i64 f]) ∧ PA w' (wide O w w') p (M.ek k L t o a wt) (M.el k L o a wt) ∧ Fr O w w' := by
  subst hx hb
  unfold M.ex M.eb M.ek M.el
  by_cases f0 : f = 0
  · subst f0
    simp only [hf, true_and, if_true]
    by_cases hk : k = o
    · simp only [hk, if_true, decide_true]
      subst hk
      exact come_meet h hl hd a wt t k hf (by simp)
    · simp only [hk, if_false, decide_false]
      cases wt
      · exact come_not h hl hd a t o hf (by simpa using hk)
      · exact come_wait h hl hd a t o hf (by simpa using hk)
  · have hf0 : ¬ M.pe L a = 0 := by rw [hf]; exact f0
    simp only [hf0, false_and, if_false, decide_false]
    exact come_no h hl hd a wt t o f hf (by simpa using f0)
set_option maxHeartbeats 400000 in
theorem send_is (h : PA w O p k L) (hl : L.length ≤ 900) (hd : L.Nodup) (a : Int) (wt : Bool) (x : Int) (b : Bool) (f : Int) (hx : M.ex k L 2 a = x) (hb : M.eb k L 2 a = b) (hf : M.pe L a = f) :
    Calls Try.prog 7 #[.pointer (some ⟨p, 0, none⟩), .int .i64 a, .bool wt] w fun e w' => e = .returned (.tuple #[.int .i64 x, .bool b, .int .i64 f]) ∧ PA w' (wide O w w') p (M.ek k L 1 2 a wt) (M.el k L 2 a wt) ∧ Fr O w w' := by
  have HC := hideIt (come_is h hl hd a wt 1 2 x b f hx hb hf)
  clear h hx hb hf hd
  go_enter Try.func7, Try.ntmps7
  go_wp2_with fail
  refine HC.out.mono ?_
  rintro e w1 ⟨rfl, Z⟩
  have Z := hideIt Z
  go_wp2
  go_ret3
  exact ⟨rfl, Z.out⟩
set_option maxHeartbeats 400000 in
theorem recv_is (h : PA w O p k L) (hl : L.length ≤ 900) (hd : L.Nodup) (a : Int) (wt : Bool) (x : Int) (b : Bool) (f : Int) (hx : M.ex k L 1 a = x) (hb : M.eb k L 1 a = b) (hf : M.pe L a = f) :
    Calls Try.prog 9 #[.pointer (some ⟨p, 0, none⟩), .int .i64 a, .bool wt] w fun e w' => e = .returned (.tuple #[.int .i64 x, .bool b, .int .i64 f]) ∧ PA w' (wide O w w') p (M.ek k L 2 1 a wt) (M.el k L 1 a wt) ∧ Fr O w w' := by
  have HC := hideIt (come_is h hl hd a wt 2 1 x b f hx hb hf)
  clear h hx hb hf hd
  go_enter Try.func9, Try.ntmps9
  go_wp2_with fail
  refine HC.out.mono ?_
  rintro e w1 ⟨rfl, Z⟩
  have Z := hideIt Z
  go_wp2
  go_ret3
  exact ⟨rfl, Z.out⟩

/-! ### Cancel, Clear, State -/
set_option maxHeartbeats 400000 in
theorem cancel_is (h : PA w O p k L) (hl : L.length ≤ 900) (hd : L.Nodup) (a : Int) (b : Bool) (hb : L.contains a = b) :
    Calls Try.prog 11 #[.pointer (some ⟨p, 0, none⟩), .int .i64 a] w fun e w' => e = .returned (.bool b) ∧ PA w' (wide O w w') p (M.es k (M.wo L a)) (M.wo L a) ∧ Fr O w w' := by
  obtain ⟨q1, d1, l1, d0, _, _⟩ := h.see
  have HR := hideIt (remove_is l1 (by omega) hd a b hb)
  have HL := hideIt (fun w' => h.line (w' := w') (L' := M.wo L a) d1)
  obtain ⟨k2, hk2⟩ : ∃ k2, M.es k (M.wo L a) = k2 := ⟨_, rfl⟩
  rw [hk2]
  replace hk2 := hideIt hk2
  have hl2 := M.wo_len L a
  clear h l1 d0 hd hb
  go_enter Try.func11, Try.ntmps11
  go_wp2_with fail
  refine HR.out.mono ?_
  rintro e w2 ⟨rfl, Z, F⟩
  have H2 := hideIt (HL.out _ Z F)
  clear Z F d1 HL HR
  have HS := hideIt (settle_is H2.out.1 (by omega) k2 hk2.out)
  go_wp2_with fail
  refine HS.out.mono ?_
  rintro e w3 ⟨rfl, Z, F⟩
  have H3 := hideIt (PA.then H2.out.2 ⟨Z, F⟩)
  clear Z F HS H2
  go_wp2
  go_ret
  exact ⟨rfl, H3.out⟩
/-- A new line is set there. -/
theorem PA.reset {w' : World} {q : Nat} (h : PA w O p k L) (G : w.grownBy w' none) (l : LA w' (fun i => i = q) q []) (hq : w.heap.size ≤ q) :
    PA ((w'.setCell ⟨p, 0, none⟩ (.int .i64 0)).setCell ⟨p, 1, none⟩ (.pointer (some ⟨q, 0, none⟩))) (wide O w ((w'.setCell ⟨p, 0, none⟩ (.int .i64 0)).setCell ⟨p, 1, none⟩ (.pointer (some ⟨q, 0, none⟩)))) p 0 [] ∧ Fr O w ((w'.setCell ⟨p, 0, none⟩ (.int .i64 0)).setCell ⟨p, 1, none⟩ (.pointer (some ⟨q, 0, none⟩))) := by
  have hlt := h.lt
  have H1 := (h.kept G).setAt 0
  generalize hw1 : w'.setCell ⟨p, 0, none⟩ (.int .i64 0) = w1 at H1 ⊢
  have l1 : LA w1 (fun i => i = q) q [] := by
    rw [← hw1]
    exact l.fr (Fr.at (O := fun i => i = p) (gbSetCell w' p 0 (.int .i64 0)) rfl) (fun i hi e => by omega)
  have F2 : Fr (fun i => i = p) w1 (w1.setCell ⟨p, 1, none⟩ (.pointer (some ⟨q, 0, none⟩))) := Fr.at (gbSetCell w1 p 1 _) rfl
  obtain ⟨q0, e1, _⟩ := H1.1.ex
  refine ⟨⟨⟨q, World.cell?_setCell_same _ _ _ e1, (l1.fr F2 (fun i hi e => by omega)).mono (fun i hi => ?_)⟩, ?_, fun i => ?_, Nat.lt_of_lt_of_le H1.1.lt F2.size, .inl h.op⟩, ((Fr.grown G).trans H1.2).trans (F2.mono fun i _ e => by rw [e]; exact h.op)⟩
  · subst hi
    exact ⟨.inr ⟨hq, Nat.lt_of_lt_of_le l1.lt F2.size⟩, by omega⟩
  · rw [World.cell?_setCell_other _ _ _ _ (by simp)]; exact H1.1.at0
  · rw [World.frozen?_setCell]; exact H1.1.fz i
set_option maxHeartbeats 400000 in
theorem clear_is (h : PA w O p k L) (hl : L.length ≤ 900) :
    Calls Try.prog 14 #[.pointer (some ⟨p, 0, none⟩)] w fun e w' => ∃ v', e = .returned v' ∧ IL w' w.heap.size v' L ∧ (∀ j, v'.ownBlock = some j → w.heap.size ≤ j) ∧ PA w' (wide O w w') p 0 [] ∧ Fr O w w' := by
  obtain ⟨q1, d1, l1, d0, _, _⟩ := h.see
  have HR := hideIt (list_is l1 (by omega))
  have H := hideIt h
  clear h l1 d0
  go_enter Try.func14, Try.ntmps14
  go_wp2_with fail
  refine HR.out.mono ?_
  rintro e w1 ⟨v1, rfl, l1, g1⟩
  have l1 := hideIt l1
  have g1 := hideIt g1
  clear d1 HR
  go_wp2_with fail
  refine (new_is w1).mono ?_
  rintro e w2 ⟨rfl, A2, s2, g2⟩
  have A2 := hideIt A2
  have H2 := H.out.kept (gbTrans g1.out g2)
  obtain ⟨q2, d1, _, d0, z0, z1⟩ := H2.see
  have H3 := hideIt (H.out.reset (gbTrans g1.out g2) A2.out g1.out.size)
  have l3 : Hid (IL ((w2.setCell ⟨p, 0, none⟩ (.int .i64 0)).setCell ⟨p, 1, none⟩ (.pointer (some ⟨w1.heap.size, 0, none⟩))) w.heap.size v1 L) := hideIt (by
    have hp := H.out.lt
    have hne : ∀ j, v1.ownBlock = some j → some j ≠ some p := fun j hj e => by cases e; have := (l1.out.lt p hj).1; omega
    exact ((l1.out.kept g2).keep (gbSetCell _ _ _ _) hne).keep (gbSetCell _ _ _ _) hne)
  have hv := hideIt (fun j hj => (l1.out.lt j hj).1)
  have g2 := hideIt g2
  clear H2 H A2 s2
  go_wp2
  go_ret
  exact ⟨_, rfl, l3.out, hv.out, H3.out⟩
set_option maxHeartbeats 400000 in
theorem state_is (h : PA w O p k L) (hl : L.length ≤ 900) :
    Calls Try.prog 16 #[.pointer (some ⟨p, 0, none⟩)] w fun e w' => ∃ v', e = .returned (.tuple #[.int .i64 k, v']) ∧ IL w' w.heap.size v' L ∧ w.grownBy w' none := by
  obtain ⟨q1, d1, l1, d0, _, _⟩ := h.see
  have gd := gbDrew (gbRefl w none)
  have HR := hideIt (list_is (l1.kept gd) (by omega))
  have T0 : w.cell? ⟨p, 0, none⟩ = some (.int .i64 k) ∧ w.cell? ⟨p, 1, none⟩ = some (.pointer (some ⟨q1, 0, none⟩)) := ⟨d0, d1⟩
  have T1 : w.drew.cell? ⟨p, 0, none⟩ = some (.int .i64 k) ∧ w.drew.cell? ⟨p, 1, none⟩ = some (.pointer (some ⟨q1, 0, none⟩)) := ⟨gd.cell d0 (by simp), gd.cell d1 (by simp)⟩
  clear h l1 d0 d1
  go_enter Try.func16, Try.ntmps16
  go_upto_region 1 with fail
  go_region_held3 (fun w' => w'.cell? ⟨p, 0, none⟩ = some (.int .i64 k) ∧ w'.cell? ⟨p, 1, none⟩ = some (.pointer (some ⟨q1, 0, none⟩)))
    (first | with_reducible exact T0 | with_reducible exact T1 | with_reducible exact T6 | fail)
    ((first
      | (go_at_call 25; refine HR.out.mono ?_; rintro e w6 ⟨v6, rfl, l6, g6⟩; have l6 := hideIt l6; have T6 : w6.cell? ⟨p, 0, none⟩ = some (.int .i64 k) ∧ w6.cell? ⟨p, 1, none⟩ = some (.pointer (some ⟨q1, 0, none⟩)) := ⟨g6.cell T1.1 (by simp), g6.cell T1.2 (by simp)⟩)))
  go_wp2
  go_ret2
  exact ⟨_, rfl, l6.out, gbTrans gd g6⟩
end
end Go.Proofs.Ytenljiciiocagaa
