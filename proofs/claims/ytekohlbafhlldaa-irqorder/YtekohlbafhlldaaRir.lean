/-
  THE DOCUMENT'S LINES IN MEMORY: a block of 32 cells (pending, masked, owned, by whom); its calls.
-/
import Derived.Test.YtekohlbafhlldaaPla
import Derived.Deep.CutRange
import Derived.Deep.DeepCutAuto
import Derived.Deep.LoopGhost
namespace Go.Proofs.Ytekohlbafhlldaa
set_option maxRecDepth 10000
open Go.RowKit
set_option linter.unusedVariables false

/-- Does somebody own it. -/
def M.hs (i : I) (k : Nat) : Bool := i.o k != -1
/-- By whom; nought, where nobody does. -/
def M.ow (i : I) (k : Nat) : Int := if i.o k = -1 then 0 else i.o k
/-- Cell a of the 32. -/
def dg (i : I) (a : Nat) : Value :=
  if a < 8 then .bool (i.p a) else if a < 16 then .bool (i.m (a - 8)) else if a < 24 then .bool (M.hs i (a - 16)) else .int .i64 (M.ow i (a - 24))
/-- The document's lines. -/
structure JA (w : World) (O : Nat → Prop) (x : Nat) (i : I) : Prop where
  row : w.rowIs x 50 32 (dg i)
  ox : O x
section
variable {w w' : World} {O O' : Nat → Prop} {x : Nat} {i : I}
theorem JA.lt (h : JA w O x i) : x < w.heap.size := World.rowIs.lt h.row
theorem JA.pend (h : JA w O x i) {k : Nat} (hk : k < 8) : w.cell? ⟨x, k, none⟩ = some (.bool (i.p k)) := by
  rw [World.rowIs.cell h.row (i := k) (by omega)]
  unfold dg
  rw [if_pos hk]
theorem JA.mask (h : JA w O x i) {k : Nat} (hk : k < 8) : w.cell? ⟨x, 8 + k, none⟩ = some (.bool (i.m k)) := by
  rw [World.rowIs.cell h.row (i := 8 + k) (by omega)]
  unfold dg
  rw [if_neg (by omega), if_pos (by omega), show 8 + k - 8 = k by omega]
theorem JA.has (h : JA w O x i) {k : Nat} (hk : k < 8) : w.cell? ⟨x, 16 + k, none⟩ = some (.bool (M.hs i k)) := by
  rw [World.rowIs.cell h.row (i := 16 + k) (by omega)]
  unfold dg
  rw [if_neg (by omega), if_neg (by omega), if_pos (by omega), show 16 + k - 16 = k by omega]
theorem JA.owner (h : JA w O x i) {k : Nat} (hk : k < 8) : w.cell? ⟨x, 24 + k, none⟩ = some (.int .i64 (M.ow i k)) := by
  rw [World.rowIs.cell h.row (i := 24 + k) (by omega)]
  unfold dg
  rw [if_neg (by omega), if_neg (by omega), if_neg (by omega), show 24 + k - 24 = k by omega]
theorem JA.fz (h : JA w O x i) (a : Nat) : w.frozen? ⟨x, a, none⟩ = false := World.rowIs.frozen h.row a
theorem JA.fr (h : JA w O x i) (F : Fr O' w w') (d : ∀ k, O k → ¬ O' k) : JA w' O x i := ⟨World.rowIs.of_block h.row (F.block _ h.lt (d _ h.ox)), h.ox⟩
theorem JA.kept (h : JA w O x i) (g : w.grownBy w' none) : JA w' O x i := h.fr (O' := fun _ => False) (Fr.grown g) (fun _ _ e => e)
/-- One cell is written. -/
theorem JA.setP (h : JA w O x i) {k : Nat} (hk : k < 8) (b : Bool) : ∃ W, w.setCell ⟨x, k, none⟩ (.bool b) = W ∧ JA W O x ⟨ub i.p k b, i.m, i.o⟩ ∧ w.grownBy W (some x) := by
  refine ⟨_, rfl, ⟨World.rowIs.congr (World.rowIs.set h.row k _) (fun a ha => ?_), h.ox⟩, gbSetCell _ _ _ _⟩
  unfold dg
  by_cases e : a = k
  · rw [if_pos e, if_pos (by omega)]; simp only [ub]; rw [if_pos e]
  · rw [if_neg e]; simp only [ub]; rw [if_neg e]; rfl
theorem JA.setM (h : JA w O x i) {k : Nat} (hk : k < 8) (b : Bool) : ∃ W, w.setCell ⟨x, 8 + k, none⟩ (.bool b) = W ∧ JA W O x ⟨i.p, ub i.m k b, i.o⟩ ∧ w.grownBy W (some x) := by
  refine ⟨_, rfl, ⟨World.rowIs.congr (World.rowIs.set h.row (8 + k) _) (fun a ha => ?_), h.ox⟩, gbSetCell _ _ _ _⟩
  unfold dg
  by_cases e : a = 8 + k
  · rw [if_pos e, if_neg (by omega), if_pos (by omega)]; simp only [ub]; rw [if_pos (by omega)]
  · rw [if_neg e]
    by_cases c1 : a < 8
    · rw [if_pos c1, if_pos c1]
    · rw [if_neg c1, if_neg c1]
      by_cases c2 : a < 16
      · rw [if_pos c2, if_pos c2]; simp only [ub]; rw [if_neg (by omega)]
      · rw [if_neg c2, if_neg c2]; rfl
/-- A line is owned: both cells. -/
theorem JA.setO (h : JA w O x i) {k : Nat} (hk : k < 8) (d : Int) (hd : d ≠ -1) : ∃ V, w.setCell ⟨x, 16 + k, none⟩ (.bool true) = V ∧ w.grownBy V (some x) ∧
    V.cell? ⟨x, 24 + k, none⟩ = some (.int .i64 (M.ow i k)) ∧ V.frozen? ⟨x, 24 + k, none⟩ = false ∧
    ∃ W, V.setCell ⟨x, 24 + k, none⟩ (.int .i64 d) = W ∧ JA W O x ⟨i.p, i.m, ui i.o k d⟩ ∧ V.grownBy W (some x) := by
  have R1 := World.rowIs.set h.row (16 + k) (.bool true)
  have R2 := World.rowIs.set R1 (24 + k) (.int .i64 d)
  refine ⟨_, rfl, gbSetCell _ _ _ _, ?_, World.rowIs.frozen R1 _, _, rfl, ⟨World.rowIs.congr R2 (fun a ha => ?_), h.ox⟩, gbSetCell _ _ _ _⟩
  · rw [World.rowIs.cell R1 (i := 24 + k) (by omega), if_neg (by omega)]
    unfold dg
    rw [if_neg (by omega), if_neg (by omega), if_neg (by omega), show 24 + k - 24 = k by omega]
  · unfold dg M.hs M.ow ui
    simp only []
    by_cases e1 : a = 24 + k
    · rw [if_pos e1, if_neg (by omega), if_neg (by omega), if_neg (by omega), if_pos (show a - 24 = k by omega), if_neg hd]
    · rw [if_neg e1]
      by_cases e2 : a = 16 + k
      · rw [if_pos e2, if_neg (by omega), if_neg (by omega), if_pos (by omega), if_pos (show a - 16 = k by omega)]
        have : (d != -1) = true := by simpa using hd
        rw [this]
      · rw [if_neg e2]
        by_cases c1 : a < 8
        · rw [if_pos c1, if_pos c1]
        · rw [if_neg c1, if_neg c1]
          by_cases c2 : a < 16
          · rw [if_pos c2, if_pos c2]
          · rw [if_neg c2, if_neg c2]
            by_cases c3 : a < 24
            · rw [if_pos c3, if_pos c3, if_neg (show ¬ a - 16 = k by omega)]
            · rw [if_neg c3, if_neg c3, if_neg (show ¬ a - 24 = k by omega)]
end

set_option maxHeartbeats 400000 in
theorem rline_is (w : World) (n : Int) (b : Bool) (hb : M.isL n = b) :
    Calls Try.prog 26 #[.int .i64 n] w fun e w' => e = .returned (.bool b) ∧ w' = w := by
  subst hb
  unfold M.isL
  by_cases c0 : 0 ≤ n
  · by_cases c1 : n < 8
    · go_enter Try.func26, Try.ntmps26
      go_wp2
      go_ret
      exact ⟨ret_bool (by simp; omega), rfl⟩
    · go_enter Try.func26, Try.ntmps26
      go_wp2
      go_ret
      exact ⟨ret_bool (by simp; omega), rfl⟩
  · go_enter Try.func26, Try.ntmps26
    go_wp2
    go_ret
    exact ⟨ret_bool (by simp; omega), rfl⟩

section
variable {w : World} {O : Nat → Prop} {x : Nat} {i : I}
set_option maxHeartbeats 800000 in
theorem rown_is (h : JA w O x i) (n d : Int) (f : Int) (hf : M.oe i n d = f) :
    Calls Try.prog 10 #[.pointer (some ⟨x, 0, none⟩), .int .i64 n, .int .i64 d] w fun e w' => e = .returned (.int .i64 f) ∧ JA w' O x (M.os i n d) ∧ Fr O w w' := by
  subst hf
  have H := hideIt h
  have hox := hideIt h.ox
  clear h
  unfold M.oe M.os
  by_cases c1 : M.isL n = true
  · by_cases c2 : M.isD d = true
    · obtain ⟨k, rfl, hk, hkn⟩ := M.isL_nat c1
      rw [hkn]
      obtain ⟨d0, d1⟩ := M.isD_iff.1 c2
      have d2 : ¬ d < 0 := by omega
      have d3 : ¬ 3 < d := by omega
      have h1 := H.out.has hk
      by_cases c3 : i.o k = -1
      · rw [if_pos ⟨c1, c2⟩, if_pos c3, if_pos ⟨c1, c2, c3⟩]
        have e0 : M.hs i k = false := by unfold M.hs; rw [c3]; rfl
        rw [e0] at h1
        have f1 := H.out.fz (16 + k)
        obtain ⟨V, eV, gV, a2, f2, W, eW, HW, gW⟩ := H.out.setO hk d (by omega)
        obtain ⟨X, eX, HX, gX⟩ := HW.setM hk false
        have f3 := HW.fz (8 + k)
        have m1 := HW.mask hk
        replace HX := hideIt HX
        clear HW e0 c3
        go_enter Try.func10, Try.ntmps10
        go_wp2_with fail
        refine (rline_is _ _ true c1).mono ?_
        rintro e w1 ⟨rfl, rfl⟩
        go_wp2
        go_ret
        exact ⟨rfl, HX.out, ((Fr.at gV hox.out).trans (Fr.at gW hox.out)).trans (Fr.at gX hox.out)⟩
      · rw [if_pos ⟨c1, c2⟩, if_neg c3, if_neg (fun e => c3 e.2.2)]
        have e0 : M.hs i k = true := by unfold M.hs; simpa using c3
        rw [e0] at h1
        clear e0 c3
        go_enter Try.func10, Try.ntmps10
        go_wp2_with fail
        refine (rline_is _ _ true c1).mono ?_
        rintro e w1 ⟨rfl, rfl⟩
        go_wp2
        go_ret
        exact ⟨rfl, H.out, Fr.refl _ _⟩
    · rw [if_neg (fun e => c2 e.2), if_neg (fun e => c2 e.2.1)]
      rw [M.isD_iff] at c2
      by_cases d0 : d < 0
      · clear c2
        go_enter Try.func10, Try.ntmps10
        go_wp2_with fail
        refine (rline_is _ _ true c1).mono ?_
        rintro e w1 ⟨rfl, rfl⟩
        go_wp2
        go_ret
        exact ⟨rfl, H.out, Fr.refl _ _⟩
      · have d1 : 3 < d := by omega
        clear c2
        go_enter Try.func10, Try.ntmps10
        go_wp2_with fail
        refine (rline_is _ _ true c1).mono ?_
        rintro e w1 ⟨rfl, rfl⟩
        go_wp2
        go_ret
        exact ⟨rfl, H.out, Fr.refl _ _⟩
  · rw [if_neg (fun e => c1 e.1), if_neg (fun e => c1 e.1)]
    have c1' : M.isL n = false := by simpa using c1
    go_enter Try.func10, Try.ntmps10
    go_wp2_with fail
    refine (rline_is _ _ false c1').mono ?_
    rintro e w1 ⟨rfl, rfl⟩
    go_wp2
    go_ret
    exact ⟨rfl, H.out, Fr.refl _ _⟩

set_option maxHeartbeats 800000 in
theorem rrraise_is (h : JA w O x i) (n : Int) (f : Int) (hf : M.re n = f) :
    Calls Try.prog 12 #[.pointer (some ⟨x, 0, none⟩), .int .i64 n] w fun e w' => e = .returned (.int .i64 f) ∧ JA w' O x (M.rs i n) ∧ Fr O w w' := by
  subst hf
  have H := hideIt h
  have hox := hideIt h.ox
  clear h
  unfold M.re M.rs
  by_cases c1 : M.isL n = true
  · obtain ⟨k, rfl, hk, hkn⟩ := M.isL_nat c1
    rw [hkn, if_pos c1, if_pos c1]
    have p1 := H.out.pend hk
    have f1 := H.out.fz k
    obtain ⟨V, eV, HV, gV⟩ := H.out.setP hk true
    replace HV := hideIt HV
    go_enter Try.func12, Try.ntmps12
    go_wp2_with fail
    refine (rline_is _ _ true c1).mono ?_
    rintro e w1 ⟨rfl, rfl⟩
    go_wp2
    go_ret
    exact ⟨rfl, HV.out, Fr.at gV hox.out⟩
  · rw [if_neg c1, if_neg c1]
    have c1' : M.isL n = false := by simpa using c1
    go_enter Try.func12, Try.ntmps12
    go_wp2_with fail
    refine (rline_is _ _ false c1').mono ?_
    rintro e w1 ⟨rfl, rfl⟩
    go_wp2
    go_ret
    exact ⟨rfl, H.out, Fr.refl _ _⟩

set_option maxHeartbeats 800000 in
theorem rack_is (h : JA w O x i) (n : Int) (f : Int) (hf : M.ae i n = f) :
    Calls Try.prog 16 #[.pointer (some ⟨x, 0, none⟩), .int .i64 n] w fun e w' => e = .returned (.int .i64 f) ∧ JA w' O x (M.ak i n) ∧ Fr O w w' := by
  subst hf
  have H := hideIt h
  have hox := hideIt h.ox
  clear h
  unfold M.ae M.ak
  by_cases c1 : M.isL n = true
  · obtain ⟨k, rfl, hk, hkn⟩ := M.isL_nat c1
    rw [hkn, if_pos c1]
    have h1 := H.out.has hk
    have m1 := H.out.mask hk
    by_cases c2 : i.o k = -1
    · rw [if_pos (.inl c2), if_neg (fun e => e.2 c2)]
      have e0 : M.hs i k = false := by unfold M.hs; rw [c2]; rfl
      rw [e0] at h1
      clear e0 c2
      go_enter Try.func16, Try.ntmps16
      go_wp2_with fail
      refine (rline_is _ _ true c1).mono ?_
      rintro e w1 ⟨rfl, rfl⟩
      go_wp2
      go_ret
      exact ⟨rfl, H.out, Fr.refl _ _⟩
    · have e0 : M.hs i k = true := by unfold M.hs; simpa using c2
      rw [e0] at h1
      clear e0
      cases hm : i.m k with
      | false =>
        rw [if_pos (.inr rfl), if_pos ⟨c1, c2⟩]
        rw [hm] at m1
        have e0 : ub i.m k false = i.m := by
          funext j
          unfold ub
          split
          · rename_i e; rw [e, hm]
          · rfl
        rw [e0]
        clear e0 c2 hm
        go_enter Try.func16, Try.ntmps16
        go_wp2_with fail
        refine (rline_is _ _ true c1).mono ?_
        rintro e w1 ⟨rfl, rfl⟩
        go_wp2
        go_ret
        exact ⟨rfl, H.out, Fr.refl _ _⟩
      | true =>
        rw [if_neg (by rintro (e | e); exact c2 e; cases e), if_pos ⟨c1, c2⟩]
        rw [hm] at m1
        obtain ⟨V, eV, HV, gV⟩ := H.out.setM hk false
        have f1 := H.out.fz (8 + k)
        replace HV := hideIt HV
        clear hm c2
        go_enter Try.func16, Try.ntmps16
        go_wp2_with fail
        refine (rline_is _ _ true c1).mono ?_
        rintro e w1 ⟨rfl, rfl⟩
        go_wp2
        go_ret
        exact ⟨rfl, HV.out, Fr.at gV hox.out⟩
  · rw [if_neg c1, if_neg (fun e => c1 e.1)]
    have c1' : M.isL n = false := by simpa using c1
    go_enter Try.func16, Try.ntmps16
    go_wp2_with fail
    refine (rline_is _ _ false c1').mono ?_
    rintro e w1 ⟨rfl, rfl⟩
    go_wp2
    go_ret
    exact ⟨rfl, H.out, Fr.refl _ _⟩

set_option maxHeartbeats 800000 in
theorem rowner_is (h : JA w O x i) (n : Int) (f : Int) (b : Bool) (hf : M.on i n = f) (hb : M.ob i n = b) :
    Calls Try.prog 18 #[.pointer (some ⟨x, 0, none⟩), .int .i64 n] w fun e w' => e = .returned (.tuple #[.int .i64 f, .bool b]) ∧ w.grownBy w' none := by
  subst hf
  subst hb
  have H := hideIt h
  clear h
  unfold M.on M.ob
  by_cases c1 : M.isL n = true
  · obtain ⟨k, rfl, hk, hkn⟩ := M.isL_nat c1
    rw [hkn]
    have h1 := H.out.has hk
    by_cases c2 : i.o k = -1
    · rw [if_neg (fun e => e.2 c2), c2, c1]
      have e0 : M.hs i k = false := by unfold M.hs; rw [c2]; rfl
      rw [e0] at h1
      clear c2 e0
      go_enter Try.func18, Try.ntmps18
      go_wp2_with fail
      refine (rline_is _ _ true c1).mono ?_
      rintro e w1 ⟨rfl, rfl⟩
      go_wp2
      go_ret2
      exact ⟨rfl, gbRefl _ _⟩
    · rw [if_pos ⟨c1, c2⟩, c1]
      have e0 : M.hs i k = true := by unfold M.hs; simpa using c2
      have o1 := H.out.owner hk
      have e1 : M.ow i k = i.o k := by unfold M.ow; rw [if_neg c2]
      have c3 : (i.o k != -1) = true := by simpa using c2
      rw [e0] at h1
      rw [e1] at o1
      rw [c3]
      clear c2 e0 e1 c3
      go_enter Try.func18, Try.ntmps18
      go_wp2_with fail
      refine (rline_is _ _ true c1).mono ?_
      rintro e w1 ⟨rfl, rfl⟩
      go_wp2
      go_ret2
      exact ⟨rfl, gbRefl _ _⟩
  · have c1' : M.isL n = false := by simpa using c1
    rw [if_neg (fun e => c1 e.1), c1']
    go_enter Try.func18, Try.ntmps18
    go_wp2_with fail
    refine (rline_is _ _ false c1').mono ?_
    rintro e w1 ⟨rfl, rfl⟩
    go_wp2
    go_ret2
    exact ⟨rfl, gbRefl _ _⟩
end
end Go.Proofs.Ytekohlbafhlldaa
