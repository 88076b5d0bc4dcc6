/-
  MOVED, AND MOVED BACK, PLAINLY: two capabilities that are planted, what is copied of the first, moves and rotations among slots of one node. Speaks of no function of the program.
-/
import Derived.Test.YtkpcdfiebjigbaaFall
namespace Go.Proofs.Ytkpcdfiebjigbaa
set_option maxRecDepth 10000
open Go.RowKit
set_option linter.unusedVariables false

namespace M
/-- Two slots are laid in, one perhaps that comes of the first. -/
def tA : T9.Fo := .node 0 0 (0, 0) .nil (.node 0 0 (0, 1) .nil .nil)
def tB : T9.Fo := .node 0 0 (0, 0) (.node 0 0 (0, 2) .nil .nil) (.node 0 0 (0, 1) .nil .nil)
/-- What is told of a store: x in slot 0, y in slot 1, nothing behind slot 2. -/
structure Bk (S : St) (x y : C) : Prop where
  th : ∀ i : Int, 0 ≤ i → i < 8 → th S (0, i) = true
  x : gc S (0, 0) = x
  y : gc S (0, 1) = y
  z : ∀ i : Int, 3 ≤ i → i < 8 → gc S (0, i) = C.zero
theorem Bk.end_ {S : St} {x y : C} (h : Bk S x y) (hx : x.k ≠ 0) : endE S (0, 0) (0, 5) = 0 := by
  unfold endE
  have e : srcE S (0, 0) = 0 := srcE_yes (by rw [h.x]; exact hx)
  rw [if_pos e]
  exact plcE_yes (h.th 5 (by omega) (by omega)) (by rw [h.z 5 (by omega) (by omega)])
theorem Bk.gc5 {S : St} {x y : C} (h : Bk S x y) (hx : x.k ≠ 0) (a : Int × Int) : gc (movS S (0, 0) (0, 5)) a = if a = (0, 5) then x else if a = (0, 0) then C.zero else gc S a := by
  unfold movS
  rw [if_pos (h.end_ hx), gc_car (h.end_ hx), h.x]
theorem Bk.th5 {S : St} {x y : C} (h : Bk S x y) (hx : x.k ≠ 0) (a : Int × Int) : M.th (movS S (0, 0) (0, 5)) a = M.th S a := by
  unfold movS carS
  rw [if_pos (h.end_ hx), th_up, th_up]
theorem Bk.end6 {S : St} {x y : C} (h : Bk S x y) (hx : x.k ≠ 0) : endE (movS S (0, 0) (0, 5)) (0, 5) (0, 0) = 0 := by
  unfold endE
  have e : srcE (movS S (0, 0) (0, 5)) (0, 5) = 0 := srcE_yes (by rw [h.gc5 hx, if_pos rfl]; exact hx)
  rw [if_pos e]
  exact plcE_yes (by rw [h.th5 hx]; exact h.th 0 (by omega) (by omega)) (by rw [h.gc5 hx, if_neg (by decide), if_pos rfl])
theorem Bk.back {S : St} {x y : C} (h : Bk S x y) (hx : x.k ≠ 0) : Bk (movS (movS S (0, 0) (0, 5)) (0, 5) (0, 0)) x y := by
  have g : ∀ a, gc (movS (movS S (0, 0) (0, 5)) (0, 5) (0, 0)) a = if a = (0, 0) then x else if a = (0, 5) then C.zero else gc S a := fun a => by
    show gc (if endE (movS S (0, 0) (0, 5)) (0, 5) (0, 0) = 0 then carS (movS S (0, 0) (0, 5)) (0, 5) (0, 0) (gc (movS S (0, 0) (0, 5)) (0, 5)) else movS S (0, 0) (0, 5)) a = _
    rw [if_pos (h.end6 hx), gc_car (h.end6 hx), h.gc5 hx, if_pos rfl]
    by_cases a0 : a = (0, 0)
    · rw [if_pos a0, if_pos a0]
    · rw [if_neg a0, if_neg a0]
      by_cases a5 : a = (0, 5)
      · rw [if_pos a5, if_pos a5]
      · rw [if_neg a5, if_neg a5, h.gc5 hx, if_neg a5, if_neg a0]
  refine ⟨fun i h0 h1 => ?_, by rw [g, if_pos rfl], by rw [g, if_neg (by decide), if_neg (by decide)]; exact h.y, fun i h0 h1 => ?_⟩
  · show M.th (if endE (movS S (0, 0) (0, 5)) (0, 5) (0, 0) = 0 then carS (movS S (0, 0) (0, 5)) (0, 5) (0, 0) (gc (movS S (0, 0) (0, 5)) (0, 5)) else movS S (0, 0) (0, 5)) (0, i) = true
    rw [if_pos (h.end6 hx)]
    unfold carS
    rw [th_up, th_up, h.th5 hx]
    exact h.th i h0 h1
  · rw [g]
    have n0 : ((0, i) : Int × Int) ≠ (0, 0) := fun e => by simp at e; omega
    rw [if_neg n0]
    by_cases e5 : ((0, i) : Int × Int) = (0, 5)
    · rw [if_pos e5]
    · rw [if_neg e5]; exact h.z i h0 h1
theorem Bk.rot1 {S : St} {x y : C} (h : Bk S x y) (hx : x.k ≠ 0) (hy : y.k ≠ 0) : rotE S (0, 0) (0, 1) (0, 0) = 0 := by
  unfold rotE
  rw [if_neg (by decide), if_pos (srcE_yes (by rw [h.y]; exact hy)), if_pos (srcE_yes (by rw [h.x]; exact hx)), if_pos rfl]
theorem Bk.turned {S : St} {f : T9.Fo} {x y : C} (h : Bk S x y) (I : Inv S f) (G : Good S) (hx : x.k ≠ 0) (hy : y.k ≠ 0) : Bk (rotS S (0, 0) (0, 1) (0, 0)) y x := by
  have e := h.rot1 hx hy
  have T := (turn_of I G e).gcs
  have s : rotS S (0, 0) (0, 1) (0, 0) = up (up (up (up S (0, 1) C.zero) (0, 0) C.zero) (0, 0) (gc S (0, 1))) (0, 1) (gc S (0, 0)) := by unfold rotS; rw [if_pos e]
  rw [s]
  refine ⟨fun i h0 h1 => by rw [th_up, th_up, th_up, th_up]; exact h.th i h0 h1, by rw [T, if_neg (by decide), if_pos rfl]; exact h.y, by rw [T, if_pos rfl]; exact h.x, fun i h0 h1 => ?_⟩
  have n0 : ((0, i) : Int × Int) ≠ (0, 0) := fun e => by simp at e; omega
  have n1 : ((0, i) : Int × Int) ≠ (0, 1) := fun e => by simp at e; omega
  rw [T, if_neg n1, if_neg n0, if_neg n0]
  exact h.z i h0 h1
theorem Bk.rot2 {S : St} {x y : C} (h : Bk S x y) (hx : x.k ≠ 0) (hy : y.k ≠ 0) : rotE S (0, 6) (0, 0) (0, 1) = 0 := by
  unfold rotE
  rw [if_neg (by decide), if_pos (srcE_yes (by rw [h.x]; exact hx)), if_pos (srcE_yes (by rw [h.y]; exact hy)), if_neg (by decide)]
  exact plcE_yes (h.th 6 (by omega) (by omega)) (by rw [h.z 6 (by omega) (by omega)])
theorem Bk.last {S : St} {f : T9.Fo} {x y : C} (h : Bk S x y) (I : Inv S f) (G : Good S) (hx : x.k ≠ 0) (hy : y.k ≠ 0) :
    (∀ i : Int, 0 ≤ i → i < 8 → M.th (rotS S (0, 6) (0, 0) (0, 1)) (0, i) = true) ∧ gc (rotS S (0, 6) (0, 0) (0, 1)) (0, 6) = x ∧ gc (rotS S (0, 6) (0, 0) (0, 1)) (0, 0) = y ∧ gc (rotS S (0, 6) (0, 0) (0, 1)) (0, 1) = C.zero := by
  have e := h.rot2 hx hy
  have T := (turn_of I G e).gcs
  have s : rotS S (0, 6) (0, 0) (0, 1) = up (up (up (up S (0, 0) C.zero) (0, 1) C.zero) (0, 6) (gc S (0, 0))) (0, 0) (gc S (0, 1)) := by unfold rotS; rw [if_pos e]
  rw [s]
  exact ⟨fun i h0 h1 => by rw [th_up, th_up, th_up, th_up]; exact h.th i h0 h1, by rw [T, if_neg (by decide), if_pos rfl]; exact h.x, by rw [T, if_pos rfl]; exact h.y, by rw [T, if_neg (by decide), if_neg (by decide), if_pos rfl]⟩
/-- Behind both plants and the copy. -/
theorem bk_start {x y : C} (rt : Int) (h1 : plaE Wk.S1 (0, 0) x = 0) (h2 : plaE (plaS Wk.S1 (0, 0) x) (0, 1) y = 0) (I3 : Inv (plaS (plaS Wk.S1 (0, 0) x) (0, 1) y) (plaF (plaS Wk.S1 (0, 0) x) (plaF Wk.S1 .nil (0, 0) x) (0, 1) y)) :
    Bk (copS (plaS (plaS Wk.S1 (0, 0) x) (0, 1) y) (0, 0) (0, 2) rt) x y ∧ x.k ≠ 0 ∧ y.k ≠ 0 ∧
      (copF (plaS (plaS Wk.S1 (0, 0) x) (0, 1) y) (plaF (plaS Wk.S1 (0, 0) x) (plaF Wk.S1 .nil (0, 0) x) (0, 1) y) (0, 0) (0, 2) rt = tA ∨ copF (plaS (plaS Wk.S1 (0, 0) x) (0, 1) y) (plaF (plaS Wk.S1 (0, 0) x) (plaF Wk.S1 .nil (0, 0) x) (0, 1) y) (0, 0) (0, 2) rt = tB) := by
  obtain ⟨a1, a2, a3, a4⟩ := putE_ok h1
  obtain ⟨b1, b2, b3, b4⟩ := putE_ok h2
  have t0 : ∀ i : Int, 0 ≤ i → i < 8 → M.th Wk.S1 (0, i) = true := fun i h0 h1 => by
    have e : Wk.S1 0 = some ⟨3, fun _ => C.zero⟩ := rfl
    show there Wk.S1 0 i = true
    unfold there
    rw [e]
    simp
    omega
  have g0 : ∀ a : Int × Int, gc Wk.S1 a = C.zero := fun a => by
    show gc (addS (fun _ => none) 0 3) a = _
    rw [gc_add]; rfl
  have s2 : plaS Wk.S1 (0, 0) x = up Wk.S1 (0, 0) x := putS_up (x := (0, 0)) h1
  have s3 : plaS (plaS Wk.S1 (0, 0) x) (0, 1) y = up (up Wk.S1 (0, 0) x) (0, 1) y := by rw [← s2]; exact putS_up (x := (0, 1)) h2
  have f3 : plaF (plaS Wk.S1 (0, 0) x) (plaF Wk.S1 .nil (0, 0) x) (0, 1) y = tA := by
    unfold plaF
    rw [if_pos h1, if_pos h2]
    kernel_rfl
  have g3 : ∀ a, gc (up (up Wk.S1 (0, 0) x) (0, 1) y) a = if a = (0, 1) then y else if a = (0, 0) then x else C.zero := fun a => by
    rw [gc_up _ (by rw [th_up]; exact t0 1 (by omega) (by omega)), gc_up _ (t0 0 (by omega) (by omega)), g0]
  rw [f3] at I3 ⊢
  rw [s3] at I3 ⊢
  by_cases hc : copE (up (up Wk.S1 (0, 0) x) (0, 1) y) (0, 0) (0, 2) rt = 0
  · have hs : copS (up (up Wk.S1 (0, 0) x) (0, 1) y) (0, 0) (0, 2) rt = up (up (up Wk.S1 (0, 0) x) (0, 1) y) (0, 2) (drv (gc (up (up Wk.S1 (0, 0) x) (0, 1) y) (0, 0)) rt 0 (gc (up (up Wk.S1 (0, 0) x) (0, 1) y) (0, 0)).g (gc (up (up Wk.S1 (0, 0) x) (0, 1) y) (0, 0)).n).1 := by
      unfold copS minS; exact if_pos hc
    have hf : copF (up (up Wk.S1 (0, 0) x) (0, 1) y) tA (0, 0) (0, 2) rt = tB := by
      have e : copF (up (up Wk.S1 (0, 0) x) (0, 1) y) tA (0, 0) (0, 2) rt = tA.childF (0, 0) (0, 2) := by unfold copF minF; exact if_pos hc
      exact e.trans (by kernel_rfl)
    have gg := fun a => gc_up (S := up (up Wk.S1 (0, 0) x) (0, 1) y) (x := (0, 2)) (drv (gc (up (up Wk.S1 (0, 0) x) (0, 1) y) (0, 0)) rt 0 (gc (up (up Wk.S1 (0, 0) x) (0, 1) y) (0, 0)).g (gc (up (up Wk.S1 (0, 0) x) (0, 1) y) (0, 0)).n).1 (by rw [th_up, th_up]; exact t0 2 (by omega) (by omega)) a
    rw [hs]
    refine ⟨⟨fun i h0 h1 => by rw [th_up, th_up, th_up]; exact t0 i h0 h1, ?_, ?_, fun i h0 h1 => ?_⟩, a3, b3, .inr hf⟩
    · rw [gg, if_neg (by decide), g3, if_neg (by decide), if_pos rfl]
    · rw [gg, if_neg (by decide), g3, if_pos rfl]
    · have n0 : ((0, i) : Int × Int) ≠ (0, 0) := fun e => by simp at e; omega
      have n1 : ((0, i) : Int × Int) ≠ (0, 1) := fun e => by simp at e; omega
      have n2 : ((0, i) : Int × Int) ≠ (0, 2) := fun e => by simp at e; omega
      rw [gg, if_neg n2, g3, if_neg n1, if_neg n0]
  · obtain ⟨hs, hf⟩ := cop_no (f := tA) hc
    rw [hs, hf]
    refine ⟨⟨fun i h0 h1 => by rw [th_up, th_up]; exact t0 i h0 h1, by rw [g3, if_neg (by decide), if_pos rfl], by rw [g3, if_pos rfl], fun i h0 h1 => ?_⟩, a3, b3, .inl rfl⟩
    have n0 : ((0, i) : Int × Int) ≠ (0, 0) := fun e => by simp at e; omega
    have n1 : ((0, i) : Int × Int) ≠ (0, 1) := fun e => by simp at e; omega
    rw [g3, if_neg n1, if_neg n0]
/-- The trees on the way. -/
def g5 (f : T9.Fo) : T9.Fo := f.moveF (0, 0) (0, 5)
def g6 (f : T9.Fo) : T9.Fo := (g5 f).moveF (0, 5) (0, 0)
def g7 (f : T9.Fo) : T9.Fo := (((g6 f).moveF (0, 1) aside).moveF (0, 0) (0, 1)).moveF aside (0, 0)
def g8 (f : T9.Fo) : T9.Fo := (((g7 f).moveF (0, 0) aside).moveF (0, 1) (0, 0)).moveF aside (0, 6)
theorem kins {f : T9.Fo} (h : f = tA ∨ f = tB) : (g6 f).kin (0, 0) = f.kin (0, 0) ∧ (g7 f).kin (0, 1) = f.kin (0, 0) ∧ (g8 f).kin (0, 0) = f.kin (0, 0) ∧ (f.kin (0, 0)).length ≤ 1024 ∧ f.len ≤ 1000 ∧ (g5 f).len ≤ 1000 ∧ (g6 f).len ≤ 1000 ∧ (g7 f).len ≤ 1000 ∧ (g8 f).len ≤ 1000 := by
  rcases h with rfl | rfl <;> decide +kernel
end M
/-! ### A plant that is refused only makes memory -/
theorem put_ref {w : World} {p m : Nat} {O : Nat → Prop} {S : St} (h : SAt w p m O S) (G : Good S) (n i k o r b g t e : Int) (hn : I64 n) (hb : 0 ≤ b) (hg : 0 ≤ g) (he : M.putE S n i ⟨k, o, r, b, g, t⟩ = e) (hne : e ≠ 0) :
    Calls Try.prog 30 #[.pointer (some ⟨p, 0, none⟩), sv n i, cv ⟨k, o, r, b, g, t⟩] w fun x w' => x = .returned (.int .i64 e) ∧ w.grownBy w' none := by
  obtain ⟨bb, K, h, op, ob, oq⟩ := h
  have HC := fun w => check_is k o r b g t _ hb hg rfl w
  subst he
  cases ht : M.there S n i
  · have e : M.putE S n i ⟨k, o, r, b, g, t⟩ = 6 := by unfold M.putE; rw [ht]; rfl
    exact (put_no w p n i k o r b g t (fun W g => find_no (h.kept g) G hn ht)).mono fun x w' q => ⟨by rw [q.1, e], q.2⟩
  · obtain ⟨d, j, hs, rfl, hj⟩ := M.there_yes ht
    obtain ⟨q, hk, N⟩ := h.has hs
    have HF := find_g h G hn hs hk hj
    have h16 := (M.radW d.r (G.rad n d hs).1 (G.rad n d hs).2).2.1
    have Z := N.six j (by omega)
    by_cases h0 : M.chk ⟨k, o, r, b, g, t⟩ = 0
    · rw [h0] at HC
      by_cases hk0 : k = 0
      · have e : M.putE S n j ⟨k, o, r, b, g, t⟩ = 3 := by unfold M.putE; rw [ht, if_pos rfl, if_pos h0, if_pos hk0]
        exact (put_null w p q _ n j k o r b g t HF (by simpa using hk0) HC).mono fun x w' q => ⟨by rw [q.1, e], q.2⟩
      · by_cases hk1 : (d.f j).k = 0
        · have e : M.putE S n j ⟨k, o, r, b, g, t⟩ = 0 := by unfold M.putE; rw [ht, if_pos rfl, if_pos h0, if_neg hk0, M.getC_at hs hj, if_pos hk1]
          exact absurd e hne
        · have e : M.putE S n j ⟨k, o, r, b, g, t⟩ = 4 := by unfold M.putE; rw [ht, if_pos rfl, if_pos h0, if_neg hk0, M.getC_at hs hj, if_neg hk1]
          exact (put_twice w p q _ n j k o r b g t _ _ _ _ _ _ HF (by simpa using hk0) (by simpa using hk1) Z HC).mono fun x w' q => ⟨by rw [q.1, e], q.2⟩
    · have e : M.putE S n j ⟨k, o, r, b, g, t⟩ = M.chk ⟨k, o, r, b, g, t⟩ := by unfold M.putE; rw [ht, if_pos rfl, if_neg h0]
      exact (put_chk w p q _ n j k o r b g t _ HF (by simpa using h0) HC).mono fun x w' q => ⟨by rw [q.1, e], q.2⟩
theorem Cs.putR {w0 w : World} {O : Nat → Prop} {p s t m : Nat} {S : St} {f : T9.Fo} (h : Cs w0 w O p s t m S f) (n i k o r b g u e : Int) (hn : I64 n) (hb : 0 ≤ b) (hg : 0 ≤ g) (he : M.putE S n i ⟨k, o, r, b, g, u⟩ = e) (hne : e ≠ 0) :
    Calls Try.prog 30 #[.pointer (some ⟨s, 0, none⟩), sv n i, cv ⟨k, o, r, b, g, u⟩] w fun x w' => x = .returned (.int .i64 e) ∧ w.grownBy w' none := by
  obtain ⟨OS, OT, h1, _⟩ := h.ex
  exact put_ref h1 h.gs n i k o r b g u e hn hb hg he hne
set_option maxHeartbeats 2000000 in
theorem Cs.plantR {w0 w : World} {O : Nat → Prop} {p s t m : Nat} {S : St} {f : T9.Fo} (h : Cs w0 w O p s t m S f) (a c k o r b g u e : Int) (ha : I64 a) (hb : 0 ≤ b) (hg : 0 ≤ g) (he : M.plaE S (a, c) ⟨k, o, r, b, g, u⟩ = e) (hv : (e != 0) = true) :
    Calls Try.prog 10 #[.pointer (some ⟨p, 0, none⟩), sv a c, cv ⟨k, o, r, b, g, u⟩] w fun x w' => x = .returned (.int .i64 e) ∧ w.grownBy w' none := by
  have hne : e ≠ 0 := by simpa using hv
  have HH := hideIt h
  clear h
  go_enter Try.func10, Try.ntmps10
  go_upto_region 1 with fail
  obtain ⟨W, hW, X, Y, g0⟩ := slotBox w a c ⟨k, o, r, b, g, u⟩
  simp only at hW
  rw [hW]
  clear hW
  have c0 : ∀ y : Gr W, y.w.cell? ⟨p, 0, none⟩ = some (.pointer (some ⟨s, 0, none⟩)) := fun y => (HH.out.kept (gbTrans g0 y.g)).c0
  have x0 : ∀ y : Gr W, y.w.cell? ⟨w.heap.size, 0, none⟩ = some (.int .i64 a) := fun y => (X.kept y.g).at0
  have x1 : ∀ y : Gr W, y.w.cell? ⟨w.heap.size, 1, none⟩ = some (.int .i64 c) := fun y => (X.kept y.g).at1
  obtain ⟨y0, y1, y2, y3, y4, y5⟩ := Y.all
  simp only at y0 y1 y2 y3 y4 y5
  have HP : ∀ y : Gr W, Calls Try.prog 30 #[.pointer (some ⟨s, 0, none⟩), sv a c, cv ⟨k, o, r, b, g, u⟩] y.w fun x w' => x = .returned (.int .i64 e) ∧ y.w.grownBy w' none := fun y => (HH.out.kept (gbTrans g0 y.g)).putR a c k o r b g u e ha hb hg he hne
  refine wp_region_grown (by kernel_rfl) (by kernel_rfl) fun _ => ?_
  repeat (go_big_quiet_step ((go_at_call 30; with_reducible exact callsGr (HP _))))
  refine wpQuiet_nil ?_
  rintro w4 ⟨⟨_, g4⟩, rfl⟩
  clear c0 x0 x1 y0 y1 y2 y3 y4 y5
  go_wp2
  go_ret
  exact ⟨rfl, gbTrans g0 g4⟩
end Go.Proofs.Ytkpcdfiebjigbaa
