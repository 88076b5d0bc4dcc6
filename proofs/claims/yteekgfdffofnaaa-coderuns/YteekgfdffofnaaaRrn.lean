/-
  THE DOCUMENT'S SIDE: donjonref23's Run (written by mkrrn2.py).
-/
import Derived.Test.YteekgfdffofnaaaRwd
import Derived.Deep.Cut
namespace Go.Proofs.Yteekgfdffofnaaa
set_option maxRecDepth 10000
open Go.RowKit
set_option linter.unusedVariables false

set_option maxHeartbeats 1000000 in
theorem rrun_field (i : I) (f : Nat → Int) (p : Int) (h : M.rt i = false) (w : World) :
    Calls Try.prog 16 #[iv i, .agg (rc f), .int .i64 p] w fun e w' => e = .returned (.tuple #[.agg (ec E0), .int .i64 10]) ∧ w.grownBy w' none := by
  replace h := hideIt h
  go_enter Try.func16, Try.ntmps16
  go_upto_region 1 with (first | (refine wpList_boxW (t := 23) rfl _ rfl rfl ?_; intro W1 q B g1 l1) | (refine wpList_boxW (t := 37) rfl _ rfl rfl ?_; intro W2 r R g2 l2) | (refine wpList_allocW rfl rfl zD ?_; intro W3 z C g3 l3))
  have lz : w.heap.size ≤ z := Nat.le_trans (Nat.le_trans g1.size g2.size) l3
  have G := gbTrans (gbTrans g1 g2) g3
  replace B := (B.kept g2).kept g3
  clear g1 g2 g3 l1 l2 l3 R
  go_wp2_with (refine wpList_loadW rfl _ rfl rfl B tkJ rfl ?_)
  refine (rright_is i _ h.out _).mono ?_
  rintro e w1 ⟨rfl, g1⟩
  replace C := C.kept g1
  replace G := gbTrans G g1
  clear g1
  go_wp2_with (first | (refine wpList_buildW rfl [] rfl [] rfl (ec E0) (by kernel_rfl) ?_) | (refine wpList_storeW rfl _ _ rfl rfl rfl C tkD rfl rfl (ec_one _) ?_; intro W9 C9 g9))
  exact bodyPost_ret (results_We Try.results16 rfl rfl C9 tkD rfl) rfl ⟨rfl, gbNew (gbTrans (gbAny G _) g9) lz⟩

set_option maxHeartbeats 1000000 in
theorem rrun_below (i : I) (f : Nat → Int) (p : Int) (h : M.rt i = true) (hp : p < 0) (w : World) :
    Calls Try.prog 16 #[iv i, .agg (rc f), .int .i64 p] w fun e w' => e = .returned (.tuple #[.agg (ec E0), .int .i64 1]) ∧ w.grownBy w' none := by
  replace h := hideIt h
  go_enter Try.func16, Try.ntmps16
  go_upto_region 1 with (first | (refine wpList_boxW (t := 23) rfl _ rfl rfl ?_; intro W1 q B g1 l1) | (refine wpList_boxW (t := 37) rfl _ rfl rfl ?_; intro W2 r R g2 l2) | (refine wpList_allocW rfl rfl zD ?_; intro W3 z C g3 l3))
  have lz : w.heap.size ≤ z := Nat.le_trans (Nat.le_trans g1.size g2.size) l3
  have G := gbTrans (gbTrans g1 g2) g3
  replace B := (B.kept g2).kept g3
  clear g1 g2 g3 l1 l2 l3 R
  go_wp2_with (refine wpList_loadW rfl _ rfl rfl B tkJ rfl ?_)
  refine (rright_is i _ h.out _).mono ?_
  rintro e w1 ⟨rfl, g1⟩
  replace C := C.kept g1
  replace G := gbTrans G g1
  clear g1
  go_wp2_with (first | (refine wpList_buildW rfl [] rfl [] rfl (ec E0) (by kernel_rfl) ?_) | (refine wpList_storeW rfl _ _ rfl rfl rfl C tkD rfl rfl (ec_one _) ?_; intro W9 C9 g9))
  exact bodyPost_ret (results_We Try.results16 rfl rfl C9 tkD rfl) rfl ⟨rfl, gbNew (gbTrans (gbAny G _) g9) lz⟩

set_option maxHeartbeats 1000000 in
theorem rrun_above (i : I) (f : Nat → Int) (p : Int) (h : M.rt i = true) (hp0 : ¬ p < 0) (hp : 4095 < p) (w : World) :
    Calls Try.prog 16 #[iv i, .agg (rc f), .int .i64 p] w fun e w' => e = .returned (.tuple #[.agg (ec E0), .int .i64 1]) ∧ w.grownBy w' none := by
  replace h := hideIt h
  go_enter Try.func16, Try.ntmps16
  go_upto_region 1 with (first | (refine wpList_boxW (t := 23) rfl _ rfl rfl ?_; intro W1 q B g1 l1) | (refine wpList_boxW (t := 37) rfl _ rfl rfl ?_; intro W2 r R g2 l2) | (refine wpList_allocW rfl rfl zD ?_; intro W3 z C g3 l3))
  have lz : w.heap.size ≤ z := Nat.le_trans (Nat.le_trans g1.size g2.size) l3
  have G := gbTrans (gbTrans g1 g2) g3
  replace B := (B.kept g2).kept g3
  clear g1 g2 g3 l1 l2 l3 R
  go_wp2_with (refine wpList_loadW rfl _ rfl rfl B tkJ rfl ?_)
  refine (rright_is i _ h.out _).mono ?_
  rintro e w1 ⟨rfl, g1⟩
  replace C := C.kept g1
  replace G := gbTrans G g1
  clear g1
  go_wp2_with (first | (refine wpList_buildW rfl [] rfl [] rfl (ec E0) (by kernel_rfl) ?_) | (refine wpList_storeW rfl _ _ rfl rfl rfl C tkD rfl rfl (ec_one _) ?_; intro W9 C9 g9))
  exact bodyPost_ret (results_We Try.results16 rfl rfl C9 tkD rfl) rfl ⟨rfl, gbNew (gbTrans (gbAny G _) g9) lz⟩

/-- What the document's Run ends with: the effect as it was built up, in memory. -/
theorem M.ex_of {e u : E} (h : e = u) : ec e = ec u := by rw [h]

set_option maxHeartbeats 8000000 in
theorem rrun_yes (o a b m p Y : Nat) (f : Nat → Int) (x : Int) (ho : o < 18) (ha : a < 8) (hb : b < 8) (hm : m < 4096) (hp : p < 4096) (hx : f a = x) (hy : f b = (Y : Int))
    (HR : ∀ w, Calls Try.prog 22 #[iv ⟨o, a, b, m⟩] w fun e w' => e = .returned (.bool true) ∧ w.grownBy w' none) (w : World) :
    Calls Try.prog 16 #[iv ⟨o, a, b, m⟩, .agg (rc f), .int .i64 p] w fun e w' => e = .returned (.tuple #[.agg (ec { M.as o a m x Y with f := upd f a (M.re o m x Y), p := M.af o m x Y p }), .int .i64 0]) ∧ w.grownBy w' none := by
  have eu : upd f a x = f := by rw [← hx]; exact upd_self f a
  go_enter Try.func16, Try.ntmps16
  go_upto_region 1 with (first | (refine wpList_boxW (t := 23) rfl _ rfl rfl ?_; intro W1 q B g1 l1) | (refine wpList_boxW (t := 37) rfl _ rfl rfl ?_; intro W2 r R g2 l2) | (refine wpList_allocW rfl rfl zD ?_; intro W3 z C g3 l3))
  have lz : w.heap.size ≤ z := Nat.le_trans (Nat.le_trans g1.size g2.size) l3
  have G := gbTrans (gbTrans g1 g2) g3
  replace B := (B.kept g2).kept g3
  replace R := R.kept g3
  clear g1 g2 g3 l1 l2 l3
  replace eu := hideIt eu
  go_wp2_with (refine wpList_loadW rfl _ rfl rfl B tkJ rfl ?_)
  refine (HR _).mono ?_
  rintro e w1 ⟨rfl, g1⟩
  replace B := B.kept g1
  replace C := C.kept g1
  replace R := R.kept g1
  replace G := gbTrans G g1
  clear g1 HR
  have p0 : ¬ (p : Int) < 0 := by omega
  have p1 : ¬ (4095 : Int) < (p : Int) := by omega
  go_upto_region 5 with fail
  clear p0 p1
  go_upto_region 6 with (first | (refine wpList_loadW rfl _ rfl rfl R tkQ rfl ?_) | (refine wpList_buildW (t := 45) rfl [(0, .tmp 25), (1, .tmp 28)] rfl [(0, .agg (rc f)), (1, .int .i64 (((p : Int) + 1) % 4096))] rfl (ec ⟨f, ((p : Int) + 1) % 4096, 0, 0, 0, 0⟩) (by kernel_rfl) ?_) | (refine wpList_allocW (t := 45) rfl rfl zD ?_; intro V1 x1 X1 k1 l1) | (refine wpList_storeW rfl _ _ rfl rfl rfl X1 tkD rfl rfl (ec_one _) ?_; intro W5 D h1))
  have dz := C.apart l1
  have dq := B.apart l1
  have lx : w.heap.size ≤ x1 := Nat.le_trans G.size l1
  replace B := B.past k1 l1 h1
  replace C := C.past k1 l1 h1
  replace R := R.past k1 l1 h1
  replace G := gbMade G k1 l1 h1
  clear k1 l1 h1 X1
  obtain ⟨a0, a1, a2, a3⟩ := B.four (i := ⟨o, a, b, m⟩)
  simp only at a0 a1 a2 a3
  have ca : W5.cell? ⟨r, a, none⟩ = some (.int .u64 x) := by rw [R.cell, rc_at f a ha, hx]
  have cb : W5.cell? ⟨r, b, none⟩ = some (.int .u64 (Y : Int)) := by rw [R.cell, rc_at f b hb, hy]
  have i0 : (0 : Int) ≤ (a : Int) := Int.natCast_nonneg _
  have i8 : (a : Int) < 8 := by omega
  have j0 : (0 : Int) ≤ (b : Int) := Int.natCast_nonneg _
  have j8 : (b : Int) < 8 := by omega
  go_quiet (fail)
  have gq := gbDrewN W5 nq none
  replace B := B.kept gq
  replace C := C.kept gq
  replace D := D.kept gq
  replace G := gbTrans G gq
  clear gq a0 a1 a2 a3 ca cb R
  generalize W5.drewN nq = w3 at B C D G
  obtain ⟨a0, a1, a2, a3⟩ := B.four (i := ⟨o, a, b, m⟩)
  simp only at a0 a1 a2 a3
  have fr := D.fr
  have c7 : w3.cell? ⟨x1, a, none⟩ = some (.int .u64 (f a)) := by rw [D.cell, ec_at _ _ ha]
  have c8 : w3.cell? ⟨x1, 8, none⟩ = some (.int .i64 (((p : Int) + 1) % 4096)) := D.cell 8
  have c9 : w3.cell? ⟨x1, 9, none⟩ = some (.int .i64 0) := D.cell 9
  have c10 : w3.cell? ⟨x1, 10, none⟩ = some (.int .u64 0) := D.cell 10
  have c11 : w3.cell? ⟨x1, 11, none⟩ = some (.int .i64 0) := D.cell 11
  have c12 : w3.cell? ⟨x1, 12, none⟩ = some (.int .u64 0) := D.cell 12
  have e : o = 0 ∨ o = 1 ∨ o = 2 ∨ o = 3 ∨ o = 4 ∨ o = 5 ∨ o = 6 ∨ o = 7 ∨ o = 8 ∨ o = 9 ∨ o = 10 ∨ o = 11 ∨ o = 12 ∨ o = 13 ∨ o = 14 ∨ o = 15 ∨ o = 16 ∨ o = 17 := by omega
  clear ho
  clear B
  rcases e with rfl | rfl | rfl | rfl | rfl | rfl | rfl | rfl | rfl | rfl | rfl | rfl | rfl | rfl | rfl | rfl | rfl | rfl
  · go_upto_region 51 with fail
    have D1 := D.set (d := ec ⟨f, ((p : Int) + 1) % 4096, 4, 0, 0, 0⟩) 9 (.int .i64 4) rfl
    have D2 := D1.set (d := ec ⟨f, p, 4, 0, 0, 0⟩) 8 (.int .i64 (p : Int)) rfl
    have gs : w3.grownBy ((w3.setCell ⟨x1, 9, none⟩ (.int .i64 4)).setCell ⟨x1, 8, none⟩ (.int .i64 (p : Int))) (some x1) := gbTrans (gbTrans (gbRefl w3 (some x1)) (gbSetCell _ _ _ _)) (gbSetCell _ _ _ _)
    generalize ((w3.setCell ⟨x1, 9, none⟩ (.int .i64 4)).setCell ⟨x1, 8, none⟩ (.int .i64 (p : Int))) = w4 at D2 gs
    replace C := C.aside gs dz
    replace G := gbNew (gbTrans (gbAny G _) gs) lx
    clear gs fr c7 c8 c9 c10 c11 c12 a0 a1 a2 a3 D D1
    have DD := D2
    go_wp2_with (first | (refine wpList_loadW rfl _ rfl rfl DD tkD rfl ?_) | (refine wpList_storeW rfl _ _ rfl rfl rfl C tkD rfl rfl (ec_one _) ?_; intro W9 C9 g9))
    rw [M.ex_of (show (⟨f, p, 4, 0, 0, 0⟩ : E) = ⟨upd f a x, p, 4, 0, 0, 0⟩ from by rw [eu.out])] at C9
    exact bodyPost_ret (results_We Try.results16 rfl rfl C9 tkD rfl) rfl ⟨rfl, gbNew (gbTrans (gbAny G _) g9) lz⟩
  · go_upto_region 51 with fail
    have D1 := D.set (d := ec ⟨upd f a ((m : Int)), ((p : Int) + 1) % 4096, 0, 0, 0, 0⟩) a (.int .u64 ((m : Int))) (ec_upd _ a _ ha)
    have gs : w3.grownBy (w3.setCell ⟨x1, a, none⟩ (.int .u64 ((m : Int)))) (some x1) := gbTrans (gbRefl w3 (some x1)) (gbSetCell _ _ _ _)
    generalize (w3.setCell ⟨x1, a, none⟩ (.int .u64 ((m : Int)))) = w4 at D1 gs
    replace C := C.aside gs dz
    replace G := gbNew (gbTrans (gbAny G _) gs) lx
    clear gs fr c7 c8 c9 c10 c11 c12 a0 a1 a2 a3 D
    have DD := D1
    go_wp2_with (first | (refine wpList_loadW rfl _ rfl rfl DD tkD rfl ?_) | (refine wpList_storeW rfl _ _ rfl rfl rfl C tkD rfl rfl (ec_one _) ?_; intro W9 C9 g9))
    exact bodyPost_ret (results_We Try.results16 rfl rfl C9 tkD rfl) rfl ⟨rfl, gbNew (gbTrans (gbAny G _) g9) lz⟩
  · go_upto_region 51 with fail
    have D1 := D.set (d := ec ⟨upd f a ((Y : Int)), ((p : Int) + 1) % 4096, 0, 0, 0, 0⟩) a (.int .u64 ((Y : Int))) (ec_upd _ a _ ha)
    have gs : w3.grownBy (w3.setCell ⟨x1, a, none⟩ (.int .u64 ((Y : Int)))) (some x1) := gbTrans (gbRefl w3 (some x1)) (gbSetCell _ _ _ _)
    generalize (w3.setCell ⟨x1, a, none⟩ (.int .u64 ((Y : Int)))) = w4 at D1 gs
    replace C := C.aside gs dz
    replace G := gbNew (gbTrans (gbAny G _) gs) lx
    clear gs fr c7 c8 c9 c10 c11 c12 a0 a1 a2 a3 D
    have DD := D1
    go_wp2_with (first | (refine wpList_loadW rfl _ rfl rfl DD tkD rfl ?_) | (refine wpList_storeW rfl _ _ rfl rfl rfl C tkD rfl rfl (ec_one _) ?_; intro W9 C9 g9))
    exact bodyPost_ret (results_We Try.results16 rfl rfl C9 tkD rfl) rfl ⟨rfl, gbNew (gbTrans (gbAny G _) g9) lz⟩
  · go_upto_region 51 with fail
    have D1 := D.set (d := ec ⟨upd f a (IntKind.u64.wrap (x + (Y : Int))), ((p : Int) + 1) % 4096, 0, 0, 0, 0⟩) a (.int .u64 (IntKind.u64.wrap (x + (Y : Int)))) (ec_upd _ a _ ha)
    have gs : w3.grownBy (w3.setCell ⟨x1, a, none⟩ (.int .u64 (IntKind.u64.wrap (x + (Y : Int))))) (some x1) := gbTrans (gbRefl w3 (some x1)) (gbSetCell _ _ _ _)
    generalize (w3.setCell ⟨x1, a, none⟩ (.int .u64 (IntKind.u64.wrap (x + (Y : Int))))) = w4 at D1 gs
    replace C := C.aside gs dz
    replace G := gbNew (gbTrans (gbAny G _) gs) lx
    clear gs fr c7 c8 c9 c10 c11 c12 a0 a1 a2 a3 D
    have DD := D1
    go_wp2_with (first | (refine wpList_loadW rfl _ rfl rfl DD tkD rfl ?_) | (refine wpList_storeW rfl _ _ rfl rfl rfl C tkD rfl rfl (ec_one _) ?_; intro W9 C9 g9))
    exact bodyPost_ret (results_We Try.results16 rfl rfl C9 tkD rfl) rfl ⟨rfl, gbNew (gbTrans (gbAny G _) g9) lz⟩
  · go_upto_region 51 with fail
    have D1 := D.set (d := ec ⟨upd f a (IntKind.u64.wrap (x - (Y : Int))), ((p : Int) + 1) % 4096, 0, 0, 0, 0⟩) a (.int .u64 (IntKind.u64.wrap (x - (Y : Int)))) (ec_upd _ a _ ha)
    have gs : w3.grownBy (w3.setCell ⟨x1, a, none⟩ (.int .u64 (IntKind.u64.wrap (x - (Y : Int))))) (some x1) := gbTrans (gbRefl w3 (some x1)) (gbSetCell _ _ _ _)
    generalize (w3.setCell ⟨x1, a, none⟩ (.int .u64 (IntKind.u64.wrap (x - (Y : Int))))) = w4 at D1 gs
    replace C := C.aside gs dz
    replace G := gbNew (gbTrans (gbAny G _) gs) lx
    clear gs fr c7 c8 c9 c10 c11 c12 a0 a1 a2 a3 D
    have DD := D1
    go_wp2_with (first | (refine wpList_loadW rfl _ rfl rfl DD tkD rfl ?_) | (refine wpList_storeW rfl _ _ rfl rfl rfl C tkD rfl rfl (ec_one _) ?_; intro W9 C9 g9))
    exact bodyPost_ret (results_We Try.results16 rfl rfl C9 tkD rfl) rfl ⟨rfl, gbNew (gbTrans (gbAny G _) g9) lz⟩
  · go_upto_region 51 with fail
    have D1 := D.set (d := ec ⟨upd f a (IntKind.u64.wrap (x * (Y : Int))), ((p : Int) + 1) % 4096, 0, 0, 0, 0⟩) a (.int .u64 (IntKind.u64.wrap (x * (Y : Int)))) (ec_upd _ a _ ha)
    have gs : w3.grownBy (w3.setCell ⟨x1, a, none⟩ (.int .u64 (IntKind.u64.wrap (x * (Y : Int))))) (some x1) := gbTrans (gbRefl w3 (some x1)) (gbSetCell _ _ _ _)
    generalize (w3.setCell ⟨x1, a, none⟩ (.int .u64 (IntKind.u64.wrap (x * (Y : Int))))) = w4 at D1 gs
    replace C := C.aside gs dz
    replace G := gbNew (gbTrans (gbAny G _) gs) lx
    clear gs fr c7 c8 c9 c10 c11 c12 a0 a1 a2 a3 D
    have DD := D1
    go_wp2_with (first | (refine wpList_loadW rfl _ rfl rfl DD tkD rfl ?_) | (refine wpList_storeW rfl _ _ rfl rfl rfl C tkD rfl rfl (ec_one _) ?_; intro W9 C9 g9))
    exact bodyPost_ret (results_We Try.results16 rfl rfl C9 tkD rfl) rfl ⟨rfl, gbNew (gbTrans (gbAny G _) g9) lz⟩
  · go_upto_region 51 with fail
    have D1 := D.set (d := ec ⟨upd f a (bits .and .u64 x (Y : Int)), ((p : Int) + 1) % 4096, 0, 0, 0, 0⟩) a (.int .u64 (bits .and .u64 x (Y : Int))) (ec_upd _ a _ ha)
    have gs : w3.grownBy (w3.setCell ⟨x1, a, none⟩ (.int .u64 (bits .and .u64 x (Y : Int)))) (some x1) := gbTrans (gbRefl w3 (some x1)) (gbSetCell _ _ _ _)
    generalize (w3.setCell ⟨x1, a, none⟩ (.int .u64 (bits .and .u64 x (Y : Int)))) = w4 at D1 gs
    replace C := C.aside gs dz
    replace G := gbNew (gbTrans (gbAny G _) gs) lx
    clear gs fr c7 c8 c9 c10 c11 c12 a0 a1 a2 a3 D
    have DD := D1
    go_wp2_with (first | (refine wpList_loadW rfl _ rfl rfl DD tkD rfl ?_) | (refine wpList_storeW rfl _ _ rfl rfl rfl C tkD rfl rfl (ec_one _) ?_; intro W9 C9 g9))
    exact bodyPost_ret (results_We Try.results16 rfl rfl C9 tkD rfl) rfl ⟨rfl, gbNew (gbTrans (gbAny G _) g9) lz⟩
  · go_upto_region 51 with fail
    have D1 := D.set (d := ec ⟨upd f a (bits .or .u64 x (Y : Int)), ((p : Int) + 1) % 4096, 0, 0, 0, 0⟩) a (.int .u64 (bits .or .u64 x (Y : Int))) (ec_upd _ a _ ha)
    have gs : w3.grownBy (w3.setCell ⟨x1, a, none⟩ (.int .u64 (bits .or .u64 x (Y : Int)))) (some x1) := gbTrans (gbRefl w3 (some x1)) (gbSetCell _ _ _ _)
    generalize (w3.setCell ⟨x1, a, none⟩ (.int .u64 (bits .or .u64 x (Y : Int)))) = w4 at D1 gs
    replace C := C.aside gs dz
    replace G := gbNew (gbTrans (gbAny G _) gs) lx
    clear gs fr c7 c8 c9 c10 c11 c12 a0 a1 a2 a3 D
    have DD := D1
    go_wp2_with (first | (refine wpList_loadW rfl _ rfl rfl DD tkD rfl ?_) | (refine wpList_storeW rfl _ _ rfl rfl rfl C tkD rfl rfl (ec_one _) ?_; intro W9 C9 g9))
    exact bodyPost_ret (results_We Try.results16 rfl rfl C9 tkD rfl) rfl ⟨rfl, gbNew (gbTrans (gbAny G _) g9) lz⟩
  · go_upto_region 51 with fail
    have D1 := D.set (d := ec ⟨upd f a (bits .xor .u64 x (Y : Int)), ((p : Int) + 1) % 4096, 0, 0, 0, 0⟩) a (.int .u64 (bits .xor .u64 x (Y : Int))) (ec_upd _ a _ ha)
    have gs : w3.grownBy (w3.setCell ⟨x1, a, none⟩ (.int .u64 (bits .xor .u64 x (Y : Int)))) (some x1) := gbTrans (gbRefl w3 (some x1)) (gbSetCell _ _ _ _)
    generalize (w3.setCell ⟨x1, a, none⟩ (.int .u64 (bits .xor .u64 x (Y : Int)))) = w4 at D1 gs
    replace C := C.aside gs dz
    replace G := gbNew (gbTrans (gbAny G _) gs) lx
    clear gs fr c7 c8 c9 c10 c11 c12 a0 a1 a2 a3 D
    have DD := D1
    go_wp2_with (first | (refine wpList_loadW rfl _ rfl rfl DD tkD rfl ?_) | (refine wpList_storeW rfl _ _ rfl rfl rfl C tkD rfl rfl (ec_one _) ?_; intro W9 C9 g9))
    exact bodyPost_ret (results_We Try.results16 rfl rfl C9 tkD rfl) rfl ⟨rfl, gbNew (gbTrans (gbAny G _) g9) lz⟩
  · go_upto_region 51 with fail
    have D1 := D.set (d := ec ⟨upd f a (IntKind.u64.wrap (x * 2 ^ (Y % 64))), ((p : Int) + 1) % 4096, 0, 0, 0, 0⟩) a (.int .u64 (IntKind.u64.wrap (x * 2 ^ (Y % 64)))) (ec_upd _ a _ ha)
    have gs : w3.grownBy (w3.setCell ⟨x1, a, none⟩ (.int .u64 (IntKind.u64.wrap (x * 2 ^ (Y % 64))))) (some x1) := gbTrans (gbRefl w3 (some x1)) (gbSetCell _ _ _ _)
    generalize (w3.setCell ⟨x1, a, none⟩ (.int .u64 (IntKind.u64.wrap (x * 2 ^ (Y % 64))))) = w4 at D1 gs
    replace C := C.aside gs dz
    replace G := gbNew (gbTrans (gbAny G _) gs) lx
    clear gs fr c7 c8 c9 c10 c11 c12 a0 a1 a2 a3 D
    have DD := D1
    go_wp2_with (first | (refine wpList_loadW rfl _ rfl rfl DD tkD rfl ?_) | (refine wpList_storeW rfl _ _ rfl rfl rfl C tkD rfl rfl (ec_one _) ?_; intro W9 C9 g9))
    exact bodyPost_ret (results_We Try.results16 rfl rfl C9 tkD rfl) rfl ⟨rfl, gbNew (gbTrans (gbAny G _) g9) lz⟩
  · go_upto_region 51 with fail
    have D1 := D.set (d := ec ⟨upd f a (x / 2 ^ (Y % 64)), ((p : Int) + 1) % 4096, 0, 0, 0, 0⟩) a (.int .u64 (x / 2 ^ (Y % 64))) (ec_upd _ a _ ha)
    have gs : w3.grownBy (w3.setCell ⟨x1, a, none⟩ (.int .u64 (x / 2 ^ (Y % 64)))) (some x1) := gbTrans (gbRefl w3 (some x1)) (gbSetCell _ _ _ _)
    generalize (w3.setCell ⟨x1, a, none⟩ (.int .u64 (x / 2 ^ (Y % 64)))) = w4 at D1 gs
    replace C := C.aside gs dz
    replace G := gbNew (gbTrans (gbAny G _) gs) lx
    clear gs fr c7 c8 c9 c10 c11 c12 a0 a1 a2 a3 D
    have DD := D1
    go_wp2_with (first | (refine wpList_loadW rfl _ rfl rfl DD tkD rfl ?_) | (refine wpList_storeW rfl _ _ rfl rfl rfl C tkD rfl rfl (ec_one _) ?_; intro W9 C9 g9))
    exact bodyPost_ret (results_We Try.results16 rfl rfl C9 tkD rfl) rfl ⟨rfl, gbNew (gbTrans (gbAny G _) g9) lz⟩
  · go_upto_region 51 with fail
    have D1 := D.set (d := ec ⟨f, ((p : Int) + 1) % 4096, 1, 0, 0, 0⟩) 9 (.int .i64 1) rfl
    have D2 := D1.set (d := ec ⟨f, ((p : Int) + 1) % 4096, 1, IntKind.u64.wrap ((Y : Int) + (m : Int)), 0, 0⟩) 10 (.int .u64 (IntKind.u64.wrap ((Y : Int) + (m : Int)))) rfl
    have D3 := D2.set (d := ec ⟨f, ((p : Int) + 1) % 4096, 1, IntKind.u64.wrap ((Y : Int) + (m : Int)), a, 0⟩) 11 (.int .i64 (a : Int)) rfl
    have gs : w3.grownBy (((w3.setCell ⟨x1, 9, none⟩ (.int .i64 1)).setCell ⟨x1, 10, none⟩ (.int .u64 (IntKind.u64.wrap ((Y : Int) + (m : Int))))).setCell ⟨x1, 11, none⟩ (.int .i64 (a : Int))) (some x1) := gbTrans (gbTrans (gbTrans (gbRefl w3 (some x1)) (gbSetCell _ _ _ _)) (gbSetCell _ _ _ _)) (gbSetCell _ _ _ _)
    generalize (((w3.setCell ⟨x1, 9, none⟩ (.int .i64 1)).setCell ⟨x1, 10, none⟩ (.int .u64 (IntKind.u64.wrap ((Y : Int) + (m : Int))))).setCell ⟨x1, 11, none⟩ (.int .i64 (a : Int))) = w4 at D3 gs
    replace C := C.aside gs dz
    replace G := gbNew (gbTrans (gbAny G _) gs) lx
    clear gs fr c7 c8 c9 c10 c11 c12 a0 a1 a2 a3 D D1 D2
    have DD := D3
    go_wp2_with (first | (refine wpList_loadW rfl _ rfl rfl DD tkD rfl ?_) | (refine wpList_storeW rfl _ _ rfl rfl rfl C tkD rfl rfl (ec_one _) ?_; intro W9 C9 g9))
    rw [M.ex_of (show (⟨f, ((p : Int) + 1) % 4096, 1, IntKind.u64.wrap ((Y : Int) + (m : Int)), a, 0⟩ : E) = ⟨upd f a x, ((p : Int) + 1) % 4096, 1, IntKind.u64.wrap ((Y : Int) + (m : Int)), a, 0⟩ from by rw [eu.out])] at C9
    exact bodyPost_ret (results_We Try.results16 rfl rfl C9 tkD rfl) rfl ⟨rfl, gbNew (gbTrans (gbAny G _) g9) lz⟩
  · go_upto_region 51 with fail
    have D1 := D.set (d := ec ⟨f, ((p : Int) + 1) % 4096, 2, 0, 0, 0⟩) 9 (.int .i64 2) rfl
    have D2 := D1.set (d := ec ⟨f, ((p : Int) + 1) % 4096, 2, IntKind.u64.wrap ((Y : Int) + (m : Int)), 0, 0⟩) 10 (.int .u64 (IntKind.u64.wrap ((Y : Int) + (m : Int)))) rfl
    have D3 := D2.set (d := ec ⟨f, ((p : Int) + 1) % 4096, 2, IntKind.u64.wrap ((Y : Int) + (m : Int)), 0, x⟩) 12 (.int .u64 x) rfl
    have gs : w3.grownBy (((w3.setCell ⟨x1, 9, none⟩ (.int .i64 2)).setCell ⟨x1, 10, none⟩ (.int .u64 (IntKind.u64.wrap ((Y : Int) + (m : Int))))).setCell ⟨x1, 12, none⟩ (.int .u64 x)) (some x1) := gbTrans (gbTrans (gbTrans (gbRefl w3 (some x1)) (gbSetCell _ _ _ _)) (gbSetCell _ _ _ _)) (gbSetCell _ _ _ _)
    generalize (((w3.setCell ⟨x1, 9, none⟩ (.int .i64 2)).setCell ⟨x1, 10, none⟩ (.int .u64 (IntKind.u64.wrap ((Y : Int) + (m : Int))))).setCell ⟨x1, 12, none⟩ (.int .u64 x)) = w4 at D3 gs
    replace C := C.aside gs dz
    replace G := gbNew (gbTrans (gbAny G _) gs) lx
    clear gs fr c7 c8 c9 c10 c11 c12 a0 a1 a2 a3 D D1 D2
    have DD := D3
    go_wp2_with (first | (refine wpList_loadW rfl _ rfl rfl DD tkD rfl ?_) | (refine wpList_storeW rfl _ _ rfl rfl rfl C tkD rfl rfl (ec_one _) ?_; intro W9 C9 g9))
    rw [M.ex_of (show (⟨f, ((p : Int) + 1) % 4096, 2, IntKind.u64.wrap ((Y : Int) + (m : Int)), 0, x⟩ : E) = ⟨upd f a x, ((p : Int) + 1) % 4096, 2, IntKind.u64.wrap ((Y : Int) + (m : Int)), 0, x⟩ from by rw [eu.out])] at C9
    exact bodyPost_ret (results_We Try.results16 rfl rfl C9 tkD rfl) rfl ⟨rfl, gbNew (gbTrans (gbAny G _) g9) lz⟩
  · go_upto_region 51 with fail
    have D1 := D.set (d := ec ⟨f, m, 0, 0, 0, 0⟩) 8 (.int .i64 (m : Int)) rfl
    have gs : w3.grownBy (w3.setCell ⟨x1, 8, none⟩ (.int .i64 (m : Int))) (some x1) := gbTrans (gbRefl w3 (some x1)) (gbSetCell _ _ _ _)
    generalize (w3.setCell ⟨x1, 8, none⟩ (.int .i64 (m : Int))) = w4 at D1 gs
    replace C := C.aside gs dz
    replace G := gbNew (gbTrans (gbAny G _) gs) lx
    clear gs fr c7 c8 c9 c10 c11 c12 a0 a1 a2 a3 D
    have DD := D1
    go_wp2_with (first | (refine wpList_loadW rfl _ rfl rfl DD tkD rfl ?_) | (refine wpList_storeW rfl _ _ rfl rfl rfl C tkD rfl rfl (ec_one _) ?_; intro W9 C9 g9))
    rw [M.ex_of (show (⟨f, m, 0, 0, 0, 0⟩ : E) = ⟨upd f a x, m, 0, 0, 0, 0⟩ from by rw [eu.out])] at C9
    exact bodyPost_ret (results_We Try.results16 rfl rfl C9 tkD rfl) rfl ⟨rfl, gbNew (gbTrans (gbAny G _) g9) lz⟩
  · by_cases c : x = 0
    · have ea : M.af 14 m x Y p = m := by simp [M.af, c]
      replace ea := hideIt ea
      go_upto_region 51 with fail
      have D1 := D.set (d := ec ⟨f, m, 0, 0, 0, 0⟩) 8 (.int .i64 (m : Int)) rfl
      have gs : w3.grownBy (w3.setCell ⟨x1, 8, none⟩ (.int .i64 (m : Int))) (some x1) := gbTrans (gbRefl w3 (some x1)) (gbSetCell _ _ _ _)
      generalize (w3.setCell ⟨x1, 8, none⟩ (.int .i64 (m : Int))) = w4 at D1 gs
      replace C := C.aside gs dz
      replace G := gbNew (gbTrans (gbAny G _) gs) lx
      clear gs fr c7 c8 c9 c10 c11 c12 a0 a1 a2 a3 D
      have DD := D1
      go_wp2_with (first | (refine wpList_loadW rfl _ rfl rfl DD tkD rfl ?_) | (refine wpList_storeW rfl _ _ rfl rfl rfl C tkD rfl rfl (ec_one _) ?_; intro W9 C9 g9))
      rw [M.ex_of (show (⟨f, m, 0, 0, 0, 0⟩ : E) = ⟨upd f a x, m, 0, 0, 0, 0⟩ from by rw [eu.out])] at C9
      exact bodyPost_ret (results_We Try.results16 rfl rfl C9 tkD rfl) rfl ⟨by show _ = Ending.returned (.tuple #[.agg (ec ⟨upd f a x, M.af 14 m x Y p, 0, 0, 0, 0⟩), .int .i64 0]); rw [ea.out]; rfl, gbNew (gbTrans (gbAny G _) g9) lz⟩
    · have ea : M.af 14 m x Y p = ((p : Int) + 1) % 4096 := by simp [M.af, c]
      replace ea := hideIt ea
      have DD := D
      go_wp2_with (first | (refine wpList_loadW rfl _ rfl rfl DD tkD rfl ?_) | (refine wpList_storeW rfl _ _ rfl rfl rfl C tkD rfl rfl (ec_one _) ?_; intro W9 C9 g9))
      rw [M.ex_of (show (⟨f, ((p : Int) + 1) % 4096, 0, 0, 0, 0⟩ : E) = ⟨upd f a x, ((p : Int) + 1) % 4096, 0, 0, 0, 0⟩ from by rw [eu.out])] at C9
      exact bodyPost_ret (results_We Try.results16 rfl rfl C9 tkD rfl) rfl ⟨by show _ = Ending.returned (.tuple #[.agg (ec ⟨upd f a x, M.af 14 m x Y p, 0, 0, 0, 0⟩), .int .i64 0]); rw [ea.out]; rfl, gbNew (gbTrans (gbAny G _) g9) lz⟩
  · by_cases c : x < (Y : Int)
    · have ea : M.af 15 m x Y p = m := by simp [M.af, c]
      replace ea := hideIt ea
      go_upto_region 51 with fail
      have D1 := D.set (d := ec ⟨f, m, 0, 0, 0, 0⟩) 8 (.int .i64 (m : Int)) rfl
      have gs : w3.grownBy (w3.setCell ⟨x1, 8, none⟩ (.int .i64 (m : Int))) (some x1) := gbTrans (gbRefl w3 (some x1)) (gbSetCell _ _ _ _)
      generalize (w3.setCell ⟨x1, 8, none⟩ (.int .i64 (m : Int))) = w4 at D1 gs
      replace C := C.aside gs dz
      replace G := gbNew (gbTrans (gbAny G _) gs) lx
      clear gs fr c7 c8 c9 c10 c11 c12 a0 a1 a2 a3 D
      have DD := D1
      go_wp2_with (first | (refine wpList_loadW rfl _ rfl rfl DD tkD rfl ?_) | (refine wpList_storeW rfl _ _ rfl rfl rfl C tkD rfl rfl (ec_one _) ?_; intro W9 C9 g9))
      rw [M.ex_of (show (⟨f, m, 0, 0, 0, 0⟩ : E) = ⟨upd f a x, m, 0, 0, 0, 0⟩ from by rw [eu.out])] at C9
      exact bodyPost_ret (results_We Try.results16 rfl rfl C9 tkD rfl) rfl ⟨by show _ = Ending.returned (.tuple #[.agg (ec ⟨upd f a x, M.af 15 m x Y p, 0, 0, 0, 0⟩), .int .i64 0]); rw [ea.out]; rfl, gbNew (gbTrans (gbAny G _) g9) lz⟩
    · have ea : M.af 15 m x Y p = ((p : Int) + 1) % 4096 := by simp [M.af, c]
      replace ea := hideIt ea
      have DD := D
      go_wp2_with (first | (refine wpList_loadW rfl _ rfl rfl DD tkD rfl ?_) | (refine wpList_storeW rfl _ _ rfl rfl rfl C tkD rfl rfl (ec_one _) ?_; intro W9 C9 g9))
      rw [M.ex_of (show (⟨f, ((p : Int) + 1) % 4096, 0, 0, 0, 0⟩ : E) = ⟨upd f a x, ((p : Int) + 1) % 4096, 0, 0, 0, 0⟩ from by rw [eu.out])] at C9
      exact bodyPost_ret (results_We Try.results16 rfl rfl C9 tkD rfl) rfl ⟨by show _ = Ending.returned (.tuple #[.agg (ec ⟨upd f a x, M.af 15 m x Y p, 0, 0, 0, 0⟩), .int .i64 0]); rw [ea.out]; rfl, gbNew (gbTrans (gbAny G _) g9) lz⟩
  · go_upto_region 51 with fail
    have D1 := D.set (d := ec ⟨f, ((p : Int) + 1) % 4096, 3, 0, 0, 0⟩) 9 (.int .i64 3) rfl
    have D2 := D1.set (d := ec ⟨f, ((p : Int) + 1) % 4096, 3, 0, 0, m⟩) 12 (.int .u64 (m : Int)) rfl
    have gs : w3.grownBy ((w3.setCell ⟨x1, 9, none⟩ (.int .i64 3)).setCell ⟨x1, 12, none⟩ (.int .u64 (m : Int))) (some x1) := gbTrans (gbTrans (gbRefl w3 (some x1)) (gbSetCell _ _ _ _)) (gbSetCell _ _ _ _)
    generalize ((w3.setCell ⟨x1, 9, none⟩ (.int .i64 3)).setCell ⟨x1, 12, none⟩ (.int .u64 (m : Int))) = w4 at D2 gs
    replace C := C.aside gs dz
    replace G := gbNew (gbTrans (gbAny G _) gs) lx
    clear gs fr c7 c8 c9 c10 c11 c12 a0 a1 a2 a3 D D1
    have DD := D2
    go_wp2_with (first | (refine wpList_loadW rfl _ rfl rfl DD tkD rfl ?_) | (refine wpList_storeW rfl _ _ rfl rfl rfl C tkD rfl rfl (ec_one _) ?_; intro W9 C9 g9))
    rw [M.ex_of (show (⟨f, ((p : Int) + 1) % 4096, 3, 0, 0, m⟩ : E) = ⟨upd f a x, ((p : Int) + 1) % 4096, 3, 0, 0, m⟩ from by rw [eu.out])] at C9
    exact bodyPost_ret (results_We Try.results16 rfl rfl C9 tkD rfl) rfl ⟨rfl, gbNew (gbTrans (gbAny G _) g9) lz⟩
  · go_upto_region 51 with fail
    have D1 := D.set (d := ec ⟨upd f a (IntKind.u64.wrap (IntKind.u64.wrap (x * 4096) + (m : Int))), ((p : Int) + 1) % 4096, 0, 0, 0, 0⟩) a (.int .u64 (IntKind.u64.wrap (IntKind.u64.wrap (x * 4096) + (m : Int)))) (ec_upd _ a _ ha)
    have gs : w3.grownBy (w3.setCell ⟨x1, a, none⟩ (.int .u64 (IntKind.u64.wrap (IntKind.u64.wrap (x * 4096) + (m : Int))))) (some x1) := gbTrans (gbRefl w3 (some x1)) (gbSetCell _ _ _ _)
    generalize (w3.setCell ⟨x1, a, none⟩ (.int .u64 (IntKind.u64.wrap (IntKind.u64.wrap (x * 4096) + (m : Int))))) = w4 at D1 gs
    replace C := C.aside gs dz
    replace G := gbNew (gbTrans (gbAny G _) gs) lx
    clear gs fr c7 c8 c9 c10 c11 c12 a0 a1 a2 a3 D
    have DD := D1
    go_wp2_with (first | (refine wpList_loadW rfl _ rfl rfl DD tkD rfl ?_) | (refine wpList_storeW rfl _ _ rfl rfl rfl C tkD rfl rfl (ec_one _) ?_; intro W9 C9 g9))
    exact bodyPost_ret (results_We Try.results16 rfl rfl C9 tkD rfl) rfl ⟨rfl, gbNew (gbTrans (gbAny G _) g9) lz⟩

theorem rrun_is (i : I) (f : Nat → Int) (p : Int) (u : E) (g : Int) (hf : ∀ j, 0 ≤ f j) (h : M.run i f p = (u, g)) (w : World) :
    Calls Try.prog 16 #[iv i, .agg (rc f), .int .i64 p] w fun e w' => e = .returned (.tuple #[.agg (ec u), .int .i64 g]) ∧ w.grownBy w' none := by
  unfold M.run at h
  by_cases c : M.rt i = true
  · rw [if_pos c] at h
    by_cases d : M.bel p 4096 = true
    · rw [if_pos d] at h
      simp only [Prod.mk.injEq] at h
      obtain ⟨rfl, rfl⟩ := h
      obtain ⟨o, a, b, m, rfl, ho, ha, hb, hm⟩ := M.rt_nat c
      obtain ⟨P, rfl⟩ : ∃ P : Nat, p = P := ⟨p.toNat, by have := M.bel_iff.1 d; omega⟩
      have hP : P < 4096 := by have := M.bel_iff.1 d; omega
      obtain ⟨Y, hY⟩ : ∃ Y : Nat, f b = Y := ⟨(f b).toNat, by have := hf b; omega⟩
      have e : M.ex ⟨o, a, b, m⟩ f P = { M.as o a m (f a) Y with f := upd f a (M.re o m (f a) Y), p := M.af o m (f a) Y P } := by rw [← hY]; rfl
      rw [e]
      exact rrun_yes o a b m P Y f (f a) ho ha hb hm hP rfl hY (rright_is _ _ c) w
    · rw [if_neg d] at h
      simp only [Prod.mk.injEq] at h
      obtain ⟨rfl, rfl⟩ := h
      have d' : ¬ (0 ≤ p ∧ p < 4096) := fun k => d (M.bel_iff.2 k)
      by_cases d1 : p < 0
      · exact rrun_below i f p c d1 w
      · exact rrun_above i f p c d1 (by omega) w
  · rw [if_neg c] at h
    simp only [Prod.mk.injEq] at h
    obtain ⟨rfl, rfl⟩ := h
    exact rrun_field i f p (by simpa using c) w
end Go.Proofs.Yteekgfdffofnaaa
