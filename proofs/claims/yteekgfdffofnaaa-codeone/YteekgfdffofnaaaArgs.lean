/-
  WHAT COMES IN: an instruction of the document's, lists of words; the law's To, regs and effect.
-/
import Derived.Test.YteekgfdffofnaaaRwd
import Derived.Test.YteekgfdffofnaaaEqs
import Derived.Lib.SmallJoins
import Derived.Deep.Slices
import Derived.Deep.LoopGhost
import Derived.OpenShut
namespace Go.Proofs.Yteekgfdffofnaaa
set_option maxRecDepth 10000
open Go.ChangeShapes Go.WideShapes Go.ChangeAt Go.RowKit
set_option linter.unusedVariables false

theorem wordCells {H : Type} {enc : TypeId × Value → H} {W : World} {base fuel : Nat} {spare : Nat → Bool} {held : Bool} {a : Option Addr} {len cap : Nat} {x : DataW H × List MemPlace}
    (h : DataW.trod enc Try.prog W base spare held fuel 36 [.slice a len cap] = some x) : ∀ i, i < len → ∃ (x : Addr) (z : Nat), a = some x ∧ W.cell? (x.add i) = some (.int .u64 (z : Int)) ∧ z < 18446744073709551616 := by
  intro i hi
  rcases Deep.open_slice Try.underlying36 h with ⟨hcs, _⟩ | ⟨y, l, c, m, n, D, Pl, hcs, _, hl, _, hm, _, hx⟩
  · simp at hcs; omega
  · simp at hcs
    obtain ⟨rfl, rfl, rfl⟩ := hcs
    have hlm : len ≤ m := by rw [hm]; split <;> omega
    obtain ⟨cs', h1, h2⟩ := hx i (by omega)
    have ce : Try.prog.cellsOf 24 = 1 := by kernel_rfl
    rw [ce] at h1
    obtain ⟨_, hlen, hcell⟩ := World.cells?_some h1
    match cs', hlen with
    | [v0], _ =>
      obtain ⟨A0, e0, _, w0⟩ := DataW.trod_int Try.underlying24 h2
      simp only [List.cons.injEq, and_true] at e0
      subst e0
      have d0 := hcell 0 (by omega)
      have z : (y.add (i * 1)).add 0 = y.add i := by unfold Addr.add; simp
      rw [z] at d0
      have u0 := u64_wf w0
      obtain ⟨Z, rfl⟩ : ∃ Z : Nat, A0 = Z := ⟨A0.toNat, by have := u0.1; omega⟩
      exact ⟨y, Z, rfl, d0, by have := u0.2; omega⟩
theorem wordsArg {H : Type} {enc : TypeId × Value → H} {W : World} {base : Nat} {spare : Nat → Bool} {held : Bool} {a : Option Addr} {len cap : Nat} {d : DataW H} {p : List MemPlace}
    (h : DataW.Trod enc Try.prog W base spare held 36 (.slice a len cap) d p) : ∀ i, i < len → ∃ (x : Addr) (z : Nat), a = some x ∧ W.cell? (x.add i) = some (.int .u64 (z : Int)) ∧ z < 18446744073709551616 := by
  obtain ⟨fuel, hf⟩ := h
  exact wordCells hf
theorem insArg {H : Type} {enc : TypeId × Value → H} {W : World} {r : Reach} {b0 base : Nat} {spare : Nat → Bool} {held : Bool} {v : Value} {d : DataW H} {p : List MemPlace}
    (hv : Value.okWide Try.prog W r b0 23 v) (h : DataW.Trod enc Try.prog W base spare held 23 v d p) : ∃ i : I, v = iv i := by
  obtain ⟨v0, v1, v2, v3, y0, y1, y2, y3, n, rfl, _, _, h0, h1, h2, h3⟩ := Go.Joins.open_agg4 Try.underlying23 (by kernel_rfl) (by kernel_rfl) hv h
  obtain ⟨A0, e0, _⟩ := DataW.trod_int Try.underlying3 h0
  obtain ⟨A1, e1, _⟩ := DataW.trod_int Try.underlying3 h1
  obtain ⟨A2, e2, _⟩ := DataW.trod_int Try.underlying3 h2
  obtain ⟨A3, e3, _⟩ := DataW.trod_int Try.underlying3 h3
  simp only [List.cons.injEq, and_true] at e0 e1 e2 e3
  subst e0 e1 e2 e3
  exact ⟨⟨A0, A1, A2, A3⟩, rfl⟩

/-- A list of words. -/
def Wl (w : World) (x : Option Addr) (n : Nat) (V : Nat → Int) : Prop := ∀ i, i < n → ∃ y, x = some y ∧ w.cell? (y.add i) = some (.int .u64 (V i)) ∧ 0 ≤ V i
theorem Wl.kept {w w' : World} {x : Option Addr} {n : Nat} {V : Nat → Int} (h : Wl w x n V) (g : w.grownBy w' none) : Wl w' x n V := fun i hi => by
  obtain ⟨y, e, hy, hv⟩ := h i hi
  exact ⟨y, e, g.cell hy (by simp), hv⟩
theorem Wl.of {w : World} {x : Option Addr} {n : Nat} (h : ∀ i, i < n → ∃ (y : Addr) (z : Nat), x = some y ∧ w.cell? (y.add i) = some (.int .u64 (z : Int)) ∧ z < 18446744073709551616) : ∃ V, Wl w x n V := by
  refine ⟨fun i => if hi : i < n then (((h i hi).choose_spec.choose : Nat) : Int) else 0, fun i hi => ?_⟩
  simp only [dif_pos hi]
  obtain ⟨e, c, l⟩ := (h i hi).choose_spec.choose_spec
  exact ⟨_, e, c, Int.natCast_nonneg _⟩
/-- The first n of a list's words. -/
def rg (V : Nat → Int) (n : Nat) : Nat → Int := fun i => if i < n then V i else 0
theorem rg_step (V : Nat → Int) (j : Nat) : upd (rg V j) j (V j) = rg V (j + 1) := by
  funext i
  unfold upd rg
  by_cases h : i = j
  · subst h; simp
  · by_cases k : i < j
    · rw [if_neg h, if_pos k, if_pos (by omega)]
    · rw [if_neg h, if_neg k, if_neg (by omega)]
theorem rg_pos {w : World} {x : Option Addr} {n : Nat} {V : Nat → Int} (h : Wl w x n V) (i : Nat) : 0 ≤ rg V n i := by
  unfold rg; split
  · exact (h i (by assumption)).choose_spec.2.2
  · exact Int.le_refl _
theorem rc_congr {f g : Nat → Int} (h : ∀ i, i < 8 → f i = g i) : rc f = rc g := by
  unfold rc rl
  rw [h 0 (by decide), h 1 (by decide), h 2 (by decide), h 3 (by decide), h 4 (by decide), h 5 (by decide), h 6 (by decide), h 7 (by decide)]

set_option maxHeartbeats 1000000 in
theorem regs_is (V : Nat → Int) (x : Option Addr) (len cap : Nat) (w : World) (L : Wl w x len V) :
    Calls Try.prog 14 #[.slice x len cap] w fun r w' => r = .returned (.agg (rc (rg V len))) ∧ w.grownBy w' none := by
  replace L := hideIt L
  go_enter Try.func14, Try.ntmps14
  go_upto_region 1 with (refine wpList_allocW (t := 37) rfl rfl zQ ?_; intro W1 z C g1 l1)
  go_upto_region 2 with (refine wpList_allocW (t := 37) rfl rfl zQ ?_; intro W2 q B g2 l2)
  have lq : w.heap.size ≤ q := Nat.le_trans g1.size l2
  have zq := C.apart l2
  have G := hideIt (gbTrans g1 g2)
  replace C := hideIt (C.kept g2)
  replace B : Hid (Rw W2 q 37 (rc (rg V 0))) := hideIt (by rw [rc_congr (g := nil8) (fun i _ => by unfold rg; rw [if_neg (by omega)]; rfl)]; exact B)
  clear g1 g2 l2
  go_wp2
  go_loopg [4] 8 (fun gk i wr => ∃ j : Nat, j + gk = 8 ∧ j ≤ len ∧ i = .int .i64 j ∧ Hid (w.grownBy wr none) ∧ Hid (Rw wr q 37 (rc (rg V j))) ∧ Hid (Rw wr z 37 (rc nil8)))
  case atStart => exact ⟨0, rfl, Nat.zero_le _, rfl, G, B, C⟩
  case round =>
    clear B C G
    obtain ⟨j, hj, jl, rfl, G, B, C⟩ := hrel
    have j8 : j ≤ 8 := by omega
    by_cases c1 : j < len
    · by_cases c2 : j < 8
      · obtain ⟨y, rfl, hy, _⟩ := (L.out.kept G.out) j c1
        have b1 := B.out.cell j
        rw [rc_at _ _ c2] at b1
        have bf := B.out.fr j
        obtain ⟨W3, e3, B3, g3⟩ : ∃ W, wr.setCell ⟨q, j, none⟩ (.int .u64 (V j)) = W ∧ Hid (Rw W q 37 (rc (rg V (j + 1)))) ∧ wr.grownBy W (some q) :=
          ⟨_, rfl, hideIt (B.out.set j _ (by rw [rc_upd _ _ _ c2, rg_step])), gbSetCell _ _ _ _⟩
        have C3 := hideIt (C.out.aside g3 zq)
        have G3 := hideIt (gbNew (gbTrans (gbAny G.out _) g3) lq)
        clear B C g3
        go_wp2
        go_roundg (gk - 1)
        case rel => exact ⟨j + 1, by omega, by omega, by go_num, G3, B3, C3⟩
        case measure => omega
      · have e : rc (rg V j) = rc (rg V len) := rc_congr (fun i hi => by unfold rg; rw [if_pos (by omega), if_pos (by omega)])
        have B' := B.out
        have C' := C.out
        have G' := G.out
        rw [e] at B'
        clear e B C G
        go_wp2_with (first | (refine wpList_loadW rfl _ rfl rfl B' tkQ rfl ?_) | (refine wpList_storeW rfl _ _ rfl rfl rfl C' tkQ rfl rfl (rc_one _) ?_; intro W9 C9 g9))
        exact bodyPost_ret (results_W Try.results14 rfl C9 tkQ rfl) rfl ⟨rfl, gbNew (gbTrans (gbAny G' _) g9) l1⟩
    · obtain rfl : j = len := by omega
      have B' := B.out
      have C' := C.out
      have G' := G.out
      clear B C G
      go_wp2_with (first | (refine wpList_loadW rfl _ rfl rfl B' tkQ rfl ?_) | (refine wpList_storeW rfl _ _ rfl rfl rfl C' tkQ rfl rfl (rc_one _) ?_; intro W9 C9 g9))
      exact bodyPost_ret (results_W Try.results14 rfl C9 tkQ rfl) rfl ⟨rfl, gbNew (gbTrans (gbAny G' _) g9) l1⟩

set_option maxHeartbeats 1000000 in
theorem to_is (i : I) (w : World) :
    Calls Try.prog 10 #[iv i] w fun e w' => e = .returned (iv i) ∧ w.grownBy w' none := by
  obtain ⟨o, a, b, m⟩ := i
  go_enter Try.func10, Try.ntmps10
  go_upto_region 1 with (first | (refine wpList_boxW rfl _ rfl rfl ?_; intro W1 x B g1 l1) | (refine wpList_allocW rfl rfl zI ?_; intro W2 y C g2 l2))
  have ly : w.heap.size ≤ y := Nat.le_trans g1.size l2
  have G := gbTrans g1 g2
  replace B := B.kept g2
  clear g1 g2 l2
  obtain ⟨a0, a1, a2, a3⟩ := B.four (i := ⟨o, a, b, m⟩)
  simp only at a0 a1 a2 a3
  go_wp2_with (first | (refine wpList_buildW rfl [(0, .tmp 4), (1, .tmp 6), (2, .tmp 8), (3, .tmp 10)] rfl [(0, .int .i64 o), (1, .int .i64 a), (2, .int .i64 b), (3, .int .i64 m)] rfl (ic ⟨o, a, b, m⟩) (by kernel_rfl) ?_) | (refine wpList_storeW rfl _ _ rfl rfl rfl C tkI rfl rfl (ic_one _) ?_; intro W9 C9 g9))
  exact bodyPost_ret (results_W Try.results10 rfl C9 tkI rfl) rfl ⟨rfl, gbNew (gbTrans (gbAny G _) g9) ly⟩

theorem ecRegs (e : E) : ∀ j v, (rc e.f)[j]? = some v → (ec e)[0 + j]? = some v := fun j v h => by
  have hj : j < 8 := (Array.getElem?_eq_some_iff.1 h).1
  rw [rc_at _ _ hj] at h
  rw [Nat.zero_add, ec_at _ _ hj]
  exact h
set_option maxHeartbeats 1000000 in
theorem effect_is (e : E) (w : World) :
    Calls Try.prog 17 #[.agg (ec e)] w fun r w' => r = .returned (.agg (ec e)) ∧ w.grownBy w' none := by
  obtain ⟨f, p, k, t, r, v⟩ := e
  go_enter Try.func17, Try.ntmps17
  go_upto_region 1 with (first | (refine wpList_boxW rfl _ rfl rfl ?_; intro W1 x B g1 l1) | (refine wpList_allocW rfl rfl zE ?_; intro W2 y C g2 l2))
  have ly : w.heap.size ≤ y := Nat.le_trans g1.size l2
  have G := gbTrans g1 g2
  replace B := B.kept g2
  clear g1 g2 l2
  have c8 : W2.cell? ⟨x, 8, none⟩ = some (.int .i64 p) := B.cell 8
  have c9 : W2.cell? ⟨x, 9, none⟩ = some (.int .i64 k) := B.cell 9
  have c10 : W2.cell? ⟨x, 10, none⟩ = some (.int .u64 t) := B.cell 10
  have c11 : W2.cell? ⟨x, 11, none⟩ = some (.int .i64 r) := B.cell 11
  have c12 : W2.cell? ⟨x, 12, none⟩ = some (.int .u64 v) := B.cell 12
  go_wp2_with (first | (refine wpList_loadM rfl _ rfl (rc f) rfl B tkQ rfl (ecRegs ⟨f, p, k, t, r, v⟩) ?_) | (refine wpList_buildW rfl [(0, .tmp 4), (1, .tmp 6), (2, .tmp 8), (3, .tmp 10), (4, .tmp 12), (5, .tmp 14)] rfl [(0, .agg (rc f)), (1, .int .i64 p), (2, .int .i64 k), (3, .int .u64 t), (4, .int .i64 r), (5, .int .u64 v)] rfl (ec ⟨f, p, k, t, r, v⟩) (by kernel_rfl) ?_) | (refine wpList_storeW rfl _ _ rfl rfl rfl C tkE rfl rfl (ec_one _) ?_; intro W9 C9 g9))
  exact bodyPost_ret (results_W Try.results17 rfl C9 tkE rfl) rfl ⟨rfl, gbNew (gbTrans (gbAny G _) g9) ly⟩
end Go.Proofs.Yteekgfdffofnaaa
