/-
  THE LAW'S MEMORIES: the program's and the document's, with the same words; all words; the law's own first question.
-/
import Derived.Test.YtfdnangceomeiaaArgs
import Derived.Deep.LoopGhost
namespace Go.Proofs.Ytfdnangceomeiaa
set_option maxRecDepth 10000
open Go.RowKit
set_option linter.unusedVariables false

/-- The document's memory, its words natural numbers. -/
structure Rm (w : World) (p b n : Nat) (F : Nat → Nat) : Prop where
  is : Y2.RefAt w p b n (fun i => (F i : Int))
  lt : ∀ i, F i < 18446744073709551616

theorem Rm.kept {w w' : World} {p b n : Nat} {F : Nat → Nat} (h : Rm w p b n F) (g : w.grownBy w' none) : Rm w' p b n F := ⟨h.is.kept g, h.lt⟩
theorem Rm.keep {w w' : World} {p b n : Nat} {F : Nat → Nat} (h : Rm w p b n F) {r : Option Nat} (g : w.grownBy w' r) (h1 : some p ≠ r) (h2 : some b ≠ r) : Rm w' p b n F := ⟨h.is.keep g h1 h2, h.lt⟩
theorem Rm.says {w : World} {p b n : Nat} {F G : Nat → Nat} (h : Rm w p b n F) (e : ∀ i, F i = G i) : Rm w p b n G := by
  rwa [show G = F from funext fun i => (e i).symm]
theorem Rm.put {w : World} {p b n : Nat} {F : Nat → Nat} (h : Rm w p b n F) (x v : Nat) (hv : v < 18446744073709551616) : Rm (w.setCell ⟨b, x, none⟩ (.int .u64 (v : Int))) p b n (fun i => if i = x then v else F i) :=
  ⟨by
    have : (fun i => if i = x then (v : Int) else (F i : Int)) = (fun i => ((if i = x then v else F i : Nat) : Int)) := by
      funext i
      split <;> rfl
    rw [← this]
    exact h.is.put x v, fun i => by
      show (if i = x then v else F i) < _
      split
      · exact hv
      · exact h.lt i⟩

/-- Both memories, all of it new since w0. -/
structure Two (w0 w : World) (p b q c n : Nat) (F : Nat → Nat) : Prop where
  m : Mm w p b n F
  r : Rm w q c n F
  g : w0.grownBy w none
  p0 : w0.heap.size ≤ p
  b0 : w0.heap.size ≤ b
  q0 : w0.heap.size ≤ q
  c0 : w0.heap.size ≤ c
  pq : p ≠ q
  pc : p ≠ c
  bq : b ≠ q
  bc : b ≠ c

theorem Two.kept {w0 w w' : World} {p b q c n : Nat} {F : Nat → Nat} (h : Two w0 w p b q c n F) (g : w.grownBy w' none) : Two w0 w' p b q c n F :=
  ⟨h.m.kept g, h.r.kept g, gbTrans h.g g, h.p0, h.b0, h.q0, h.c0, h.pq, h.pc, h.bq, h.bc⟩

theorem Mm.plt {w : World} {p b n : Nat} {F : Nat → Nat} (h : Mm w p b n F) : p < w.heap.size := (Array.getElem?_eq_some_iff.1 h.is.box).1
theorem Mm.blt {w : World} {p b n : Nat} {F : Nat → Nat} (h : Mm w p b n F) : b < w.heap.size := h.is.row.lt
theorem Rm.plt {w : World} {p b n : Nat} {F : Nat → Nat} (h : Rm w p b n F) : p < w.heap.size := (Array.getElem?_eq_some_iff.1 h.is.box).1
theorem Rm.blt {w : World} {p b n : Nat} {F : Nat → Nat} (h : Rm w p b n F) : b < w.heap.size := h.is.row.lt

/-- The words that come in. -/
def Ws (w : World) (a : Option Addr) (len : Nat) : Prop := ∀ i, i < len → ∃ (x : Addr) (z : Nat), a = some x ∧ w.cell? (x.add i) = some (.int .u64 (z : Int)) ∧ z < 18446744073709551616
theorem Ws.kept {w w' : World} {a : Option Addr} {len : Nat} (h : Ws w a len) (g : w.grownBy w' none) : Ws w' a len := fun i hi => by
  obtain ⟨x, z, e, hc, hz⟩ := h i hi
  exact ⟨x, z, e, g.cell hc (by simp), hz⟩

theorem Two.mid {w0 w w3 : World} {p b q c n : Nat} {F : Nat → Nat} (T : Two w0 w p b q c n F) (g : w.grownBy w3 (some b)) : Rm w3 q c n F ∧ w0.grownBy w3 none :=
  ⟨T.r.keep g (by simp; exact fun e => T.bq e.symm) (by simp; exact fun e => T.bc e.symm), gbNew (gbTrans (gbAny T.g _) g) T.b0⟩
theorem Two.turn {w0 w w3 w4 : World} {p b q c n : Nat} {F G : Nat → Nat} (T : Two w0 w p b q c n F) (m : Mm w3 p b n G) (g : w.grownBy w3 (some b)) (r : Rm w4 q c n G) (g4 : w3.grownBy w4 (some c)) : Two w0 w4 p b q c n G :=
  ⟨m.keep g4 (by simp; exact T.pc) (by simp; exact T.bc), r, gbNew (gbTrans (gbAny (T.mid g).2 _) g4) T.c0, T.p0, T.b0, T.q0, T.c0, T.pq, T.pc, T.bq, T.bc⟩

set_option maxHeartbeats 2000000 in
theorem made_is (a : Int) (n : Nat) (x0 : Option Addr) (len cap : Nat) (w : World) (U : Nat) (hU : IntKind.u64.wrap a = (U : Int)) (hn : 64 + (U : Int) % 256 = (n : Int)) (n0 : 64 ≤ n) (n1 : n ≤ 320) (hw : Ws w x0 len) :
    Calls Try.prog 8 #[.int .i64 a, .slice x0 len cap] w fun e w' => ∃ p b q c F, e = .returned (.tuple #[.pointer (some ⟨p, 0, none⟩), .pointer (some ⟨q, 0, none⟩), .bool true]) ∧ Two w w' p b q c n F := by
  have HW := hideIt hw
  clear hw
  go_enter Try.func8, Try.ntmps8
  go_wp2_with fail
  refine (Y2.new_yes _ n n0 (by omega)).mono ?_
  rintro e w1 ⟨p, b, rfl, hm1, hg1, hp, hb⟩
  go_wp2_with fail
  refine (Y2.rnew_yes _ n n0 (by omega)).mono ?_
  rintro e w2 ⟨q, c, rfl, hr2, hg2, hq, hc⟩
  have H2 : Two w w2 p b q c n (fun _ => 0) := by
    have pl : p < w1.heap.size := (Array.getElem?_eq_some_iff.1 hm1.box).1
    have bl : b < w1.heap.size := hm1.row.lt
    have s1 := hg1.size
    exact ⟨⟨hm1.kept hg2, fun _ => by omega⟩, ⟨hr2, fun _ => by omega⟩, gbTrans hg1 hg2, hp, hb, by omega, by omega, by omega, by omega, by omega, by omega⟩
  have H2 := hideIt H2
  clear hm1 hg1 hp hb hr2 hg2 hq hc
  go_wp2_with fail
  go_loopw [11] (fun i wr => ∃ (k : Nat) (F : Nat → Nat), k ≤ n ∧ i = .int .i64 k ∧ Two w wr p b q c n F) (fun i _ => n - (intOf i).toNat)
  case atStart => exact ⟨0, _, by omega, rfl, H2.out⟩
  case round =>
    obtain ⟨k, F, hk, rfl, T⟩ := hrel
    clear H2
    by_cases l1 : k < len
    · by_cases l2 : k < n
      · obtain ⟨x, z, rfl, hz0, hz'⟩ := HW.out k l1
        have hz := T.g.cell hz0 (by simp)
        have hz0 := hideIt hz0
        go_wp2_with fail
        refine (T.m.put k z l2 hz').mono ?_
        rintro e w3 ⟨rfl, m3, g3⟩
        obtain ⟨r3, G3⟩ := T.mid g3
        have hc3 := r3.is.cell
        have hk3 := r3.is.row.cell l2
        have hf3 := r3.is.row.frozen k
        have hz3 := G3.cell hz0.out (by simp)
        clear hz
        go_wp2_with fail
        go_region
        go_wp2
        go_roundw
        case rel => exact ⟨k + 1, _, by omega, by go_num, T.turn m3 g3 ((r3.kept (gbDrewN w3 1 none)).put k z hz') (gbTrans (gbDrewN w3 1 _) (gbSetCell _ _ _ _))⟩
        case measure => simp [intOf]; omega
      · go_wp2
        exact bodyPost_ret (v := .tuple #[.pointer (some ⟨p, 0, none⟩), .pointer (some ⟨q, 0, none⟩), .bool true]) (by simp [results, Try.results8, go_sem]) rfl ⟨p, b, q, c, F, rfl, T⟩
    · go_wp2
      exact bodyPost_ret (v := .tuple #[.pointer (some ⟨p, 0, none⟩), .pointer (some ⟨q, 0, none⟩), .bool true]) (by simp [results, Try.results8, go_sem]) rfl ⟨p, b, q, c, F, rfl, T⟩

set_option maxHeartbeats 400000 in
theorem words_is (w : World) (p b n : Nat) (F : Nat → Nat) (hm : Mm w p b n F) :
    Calls Try.prog 15 #[.pointer (some ⟨p, 0, none⟩)] w fun e w' => ∃ g, e = .returned (.slice (some ⟨g, 0, none⟩) n n) ∧ w'.rowIs g 46 n (fun i => .int .u64 (F i : Int)) ∧ w.grownBy w' none ∧ w.heap.size ≤ g := by
  have HC := hideIt hm.is.cell
  have HR := fun w' (k : w.grownBy w' none) => Y2.read_yes w' p b n 0 n _ (hm.kept k).is (by omega)
  clear hm
  go_enter Try.func15, Try.ntmps15
  go_wp2_with fail
  refine (Y2.size_any _ p b n HC.out).mono ?_
  rintro e w1 ⟨rfl, rfl⟩
  go_wp2_with fail
  refine (HR _ (gbRefl _ _)).mono ?_
  rintro e w2 ⟨g, rfl, hr, hg, hl⟩
  go_wp2
  go_ret
  exact ⟨g, rfl, hr.congr (fun i _ => by rw [Nat.zero_add]), hg, hl⟩

/-! ### The law's own first question -/
theorem M.up_word (P : Nat) (v : Bool) (h : P < 4096) : M.up (16 * P + 1 + (if v then 2 else 0)) = (⟨true, v, ((16 * P : Nat) : Int)⟩, 0) := by
  have e := M.up_odd (W := 16 * P + 1 + (if v then 2 else 0)) (by split <;> omega) (by split <;> omega) (by split <;> omega)
  rw [e]
  have e1 : (16 * P + 1 + (if v then 2 else 0)) / 16 * 16 = 16 * P := by split <;> omega
  have e2 : ((16 * P + 1 + (if v then 2 else 0)) / 2 % 2 == 1) = v := by
    cases v
    · simp only [Bool.false_eq_true, if_false, beq_eq_false_iff_ne]; omega
    · simp only [if_true, beq_iff_eq]; omega
  rw [e1, e2]

theorem M.lv_mk {n : Nat} {F : Nat → Nat} {x P : Nat} {v : Bool} (h : M.up (F x) = (⟨true, v, ((16 * P : Nat) : Int)⟩, 0)) (hP : 16 * P + 16 ≤ n) : M.lv n F x = (⟨true, v, ((16 * P : Nat) : Int)⟩, true) := by
  unfold M.lv
  rw [h]
  simp only [Prod.mk.injEq, true_and, beq_self_eq_true, Bool.true_and, M.th, Bool.and_eq_true, decide_eq_true_eq]
  omega

theorem M.pe_mk {n : Nat} {F : Nat → Nat} {A D P Q : Nat} {v : Bool} (hA : A < 4096) (hD : D % 16 = 0) (hD' : D + 16 ≤ n) (h1 : M.up (F (D + A / 256)) = (⟨true, false, ((16 * P : Nat) : Int)⟩, 0)) (hP : 16 * P + 16 ≤ n)
    (h2 : M.up (F (16 * P + A / 16 % 16)) = (⟨true, v, ((16 * Q : Nat) : Int)⟩, 0)) (hQ : 16 * Q + 16 ≤ n) : M.pe n F (D : Int) (A : Int) = (⟨true, v, ((16 * Q : Nat) : Int)⟩, 0) := by
  have c1 : ¬ M.isA (A : Int) = false := by simp [M.isA]; omega
  have c2 : ¬ ((D : Int) % 16 == 0 && M.th n (D : Int)) = false := by simp [M.th]; omega
  have k1 : ((D : Int) + (A : Int) / 256).toNat = D + A / 256 := by omega
  have k2 : (((16 * P : Nat) : Int) + (A : Int) / 16 % 16).toNat = 16 * P + A / 16 % 16 := by omega
  unfold M.pe
  rw [if_neg c1, if_neg c2, k1, M.lv_mk h1 hP]
  simp only
  rw [if_neg (by simp), k2, M.lv_mk h2 hQ]
  simp only
  rw [if_neg (by simp)]

theorem M.pe_fault {n : Nat} {F : Nat → Nat} {A D : Nat} {f : Int} (hA : A < 4096) (hD : D % 16 = 0) (hD' : D + 16 ≤ n) (h1 : M.up (F (D + A / 256)) = (E.zero, f)) : M.pe n F (D : Int) (A : Int) = (E.zero, 12) := by
  have c1 : ¬ M.isA (A : Int) = false := by simp [M.isA]; omega
  have c2 : ¬ ((D : Int) % 16 == 0 && M.th n (D : Int)) = false := by simp [M.th]; omega
  have k1 : ((D : Int) + (A : Int) / 256).toNat = D + A / 256 := by omega
  have k : M.lv n F (D + A / 256) = (E.zero, false) := by
    unfold M.lv
    rw [h1]
    simp
  unfold M.pe
  rw [if_neg c1, if_neg c2, k1, k, if_pos (by simp)]

theorem M.to_mk {n : Nat} {F : Nat → Nat} {A Q : Nat} {dir : Int} {v wr : Bool} (h : M.pe n F dir (A : Int) = (⟨true, v, ((16 * Q : Nat) : Int)⟩, 0)) (hw : (wr && !v) = false) : M.to n F dir (A : Int) wr = (((16 * Q + A % 16 : Nat) : Int), 0) := by
  unfold M.to
  rw [h]
  simp only [if_true]
  rw [if_neg (by simp [hw])]
  simp only [Prod.mk.injEq, and_true]
  omega
theorem M.to_fault {n : Nat} {F : Nat → Nat} {dir a : Int} {wr : Bool} {c : E} {f : Int} (h : M.pe n F dir a = (c, f)) (hf : f ≠ 0) : M.to n F dir a wr = (0, f) := by
  unfold M.to
  rw [h, if_neg hf]
theorem M.to_rights {n : Nat} {F : Nat → Nat} {dir a : Int} {c : E} (h : M.pe n F dir a = (c, 0)) (hw : c.w = false) : M.to n F dir a true = (0, 5) := by
  unfold M.to
  rw [h]
  simp [hw]

/-- The words of the chapter's example. -/
abbrev F1 : Nat → Nat := fun i => if i = 19 then 35 else if i = 2 then 17 else 0
theorem F1_page : M.pe 64 F1 0 565 = (⟨true, true, ((16 * 2 : Nat) : Int)⟩, 0) :=
  M.pe_mk (n := 64) (F := F1) (A := 565) (D := 0) (P := 1) (Q := 2) (v := true) (by omega) (by omega) (by omega) (M.up_word 1 false (by omega)) (by omega) (M.up_word 2 true (by omega)) (by omega)
theorem F1_to : M.to 64 F1 0 565 true = (37, 0) := M.to_mk (A := 565) (Q := 2) F1_page rfl
theorem F1_sw (i : Nat) : M.sw 64 F1 0 565 9 i = if i = 37 then 9 else F1 i := by
  unfold M.sw
  rw [F1_to]
  simp
theorem F1_get : M.sw 64 F1 0 565 9 37 = 9 := by rw [F1_sw]; rfl
theorem F1_zero : M.ld 64 (M.sw 64 F1 0 565 9) 0 0 = (0, 12) := by
  have h : M.to 64 (M.sw 64 F1 0 565 9) 0 0 false = (0, 12) :=
    M.to_fault (M.pe_fault (n := 64) (A := 0) (D := 0) (f := 0) (by omega) (by omega) (by omega) (by rw [F1_sw]; exact M.up_zero)) (by omega)
  unfold M.ld
  rw [h, if_neg (by omega)]
theorem F1_one : M.ld 64 (M.sw 64 F1 0 565 9) 1 0 = (0, 9) := by
  have h : M.to 64 (M.sw 64 F1 0 565 9) 1 0 false = (0, 9) := by
    refine M.to_fault (c := E.zero) ?_ (by omega)
    unfold M.pe
    rw [if_neg (by decide), if_pos (by decide)]
  unfold M.ld
  rw [h, if_neg (by omega)]

end Go.Proofs.Ytfdnangceomeiaa
