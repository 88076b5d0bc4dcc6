/-
  THE CONTRACTS of package tree: adopt, replace.
-/
import Derived.Test.YtkpcdfiebjigbaaTLay
namespace Go.Proofs.Ytkpcdfiebjigbaa
set_option maxRecDepth 10000
namespace T9
open Go.RowKit
set_option linter.unusedVariables false

/-- Those of a list come of another one. -/
def M.adp (P : Vw) (l : List (Int × Int)) (o : Option (Int × Int)) : Vw := fun t => if t ∈ l then (P t).map (fun y => (o, y.2)) else P t
theorem M.adp_nil (P : Vw) (o : Option (Int × Int)) : M.adp P [] o = P := by funext t; simp [M.adp]
theorem M.adp_snoc (P : Vw) (l : List (Int × Int)) (c : Int × Int) (o o' : Option (Int × Int)) (ll : List (Int × Int)) (h : M.adp P l o c = some (o', ll)) : (fun t => if t = c then some (o, ll) else M.adp P l o t) = M.adp P (l ++ [c]) o := by
  funext t
  unfold M.adp at h ⊢
  by_cases e : t = c
  · subst e
    rw [if_pos rfl, if_pos (by simp)]
    by_cases hm : t ∈ l
    · rw [if_pos hm] at h
      cases hp : P t with
      | none => rw [hp] at h; cases h
      | some y => rw [hp] at h; simp at h; simp [h.2]
    · rw [if_neg hm] at h
      rw [h]; rfl
  · rw [if_neg e]
    by_cases hm : t ∈ l
    · rw [if_pos hm, if_pos (by simp [hm])]
    · rw [if_neg hm, if_neg (by simp [hm, e])]

/-- Three cells: what a slot comes of. -/
structure PBox (w : World) (x : Nat) (n i : Int) (f : Bool) : Prop where
  at0 : w.cell? ⟨x, 0, none⟩ = some (.int .i64 n)
  at1 : w.cell? ⟨x, 1, none⟩ = some (.int .i64 i)
  at2 : w.cell? ⟨x, 2, none⟩ = some (.bool f)
  lt : x < w.heap.size
theorem PBox.made (w : World) (n i : Int) (f : Bool) : PBox (w.alloc (.cells #[.int .i64 n, .int .i64 i, .bool f] 84)) w.heap.size n i f := ⟨by simp, by simp, by simp, by simp⟩
theorem PBox.fr {O : Nat → Prop} {w w' : World} {x : Nat} {n i : Int} {f : Bool} (X : PBox w x n i f) (h : Fr O w w') (ho : ¬ O x) : PBox w' x n i f := ⟨h.cell X.at0 ho, h.cell X.at1 ho, h.cell X.at2 ho, Nat.lt_of_lt_of_le X.lt h.size⟩
theorem PBox.kept {w w' : World} {x : Nat} {n i : Int} {f : Bool} (X : PBox w x n i f) (h : w.grownBy w' none) : PBox w' x n i f := X.fr (O := fun _ => False) (Fr.grown h) (fun e => e)
theorem pboxNew (w : World) (n i : Int) (f : Bool) : ∃ W, w.alloc (.cells #[.int .i64 n, .int .i64 i, .bool f] 84) = W ∧ PBox W w.heap.size n i f ∧ w.grownBy W none ∧ W.heap.size = w.heap.size + 1 := ⟨_, rfl, PBox.made w n i f, gbAlloc _ _ _, by simp⟩
theorem _root_.Go.Proofs.Ytkpcdfiebjigbaa.Row.fr {O : Nat → Prop} {w w' : World} {x : Addr} {L : List (Int × Int)} (h : Row w x L) (k : Fr O w w') (ho : ¬ O x.block) : Row w' x L :=
  fun i p hp => ⟨k.cell (h i p hp).at0 (by rw [add_block]; exact ho), k.cell (h i p hp).at1 (by simp only [add_block]; exact ho)⟩

/-- The members of a list's slots. -/
def M.own (L : List (Int × Int)) (K : Int × Int → Option Nat) (i : Nat) : Prop := ∃ c ∈ L, K c = some i
theorem sboxNew' (w : World) (n i : Int) : ∃ W, w.alloc (.cells #[.int .i64 n, .int .i64 i] 29) = W ∧ SBox W w.heap.size n i ∧ w.grownBy W none ∧ W.heap.size = w.heap.size + 1 := ⟨_, rfl, SBox.made w n i, gbAlloc _ _ _, by simp⟩

set_option maxHeartbeats 1000000 in
theorem adopt_row {w : World} {p b m g len cap : Nat} {K : Int × Int → Option Nat} {V : Int × Int → Value} {P : Vw} (h : Hid (TA w p b m K V P)) (L : List (Int × Int)) (hlen : Hid (L.length = len)) (hlen2 : len ≤ 1000) (HR : Hid (Row w ⟨g, 0, none⟩ L)) (on oa : Int) (ob : Bool) (o : Option (Int × Int)) (ho : Hid (oN o = on ∧ oA o = oa ∧ oB o = ob))
    (hin : Hid (∀ c ∈ L, I64 c.1 ∧ I64 c.2 ∧ P c ≠ none)) (hgq : Hid (∀ c q, K c = some q → g ≠ q)) :
    Calls Try.prog 54 #[.pointer (some ⟨p, 0, none⟩), .slice (some ⟨g, 0, none⟩) len cap, .agg #[.int .i64 on, .int .i64 oa, .bool ob]] w fun e w' => e = .returned (.tuple #[]) ∧ TA w' p b m K V (M.adp P L o) ∧ Fr (M.own L K) w w' := by
  go_enter Try.func54, Try.ntmps54
  go_upto_region 1 with fail
  obtain ⟨W, hW, X, g0, hs0⟩ := pboxNew w on oa ob
  rw [hW]
  clear hW
  go_wp2
  go_loopg [10] len (fun y i wr => ∃ j : Nat, j + y = len ∧ i = .int .i64 j ∧ Hid (TA wr p b m K V (M.adp P (L.take j) o)) ∧ Hid (Fr (M.own L K) W wr))
  case atStart => exact ⟨0, by omega, rfl, hideIt (by rw [List.take_zero, M.adp_nil]; exact h.out.kept g0), hideIt (Fr.refl _ _)⟩
  case round =>
    obtain ⟨j, hj, rfl, HA, HF⟩ := hrel
    by_cases hlt : j < len
    · have hlt' : (j : Int) < (len : Int) := by omega
      obtain ⟨⟨a, c⟩, hac⟩ : ∃ q, L[j]? = some q := ⟨_, List.getElem?_eq_getElem (by rw [hlen.out]; exact hlt)⟩
      have hmem : (a, c) ∈ L := List.mem_of_getElem? hac
      obtain ⟨ha, hc, hpn⟩ := hin.out _ hmem
      have E := ((HR.out.kept g0).fr HF.out (by rintro ⟨c', _, e⟩; exact hgq.out c' _ e rfl)) j _ hac
      rw [Addr.add_lit, Nat.zero_add] at E
      simp only at E
      have e0 := E.at0
      have e1 := E.at1
      obtain ⟨q, hq⟩ : ∃ q, K (a, c) = some q := by
        cases hk : K (a, c) with
        | some q => exact ⟨q, rfl⟩
        | none =>
          cases hp : P (a, c) with
          | none => exact absurd hp hpn
          | some y => obtain ⟨q, h1, _⟩ := h.out.mem _ _ hp; rw [hk] at h1; cases h1
      have Hq := hideIt hq
      have HMem := hideIt hmem
      have Hac := hideIt hac
      clear hac hmem hpn E hq
      go_upto_region 4 with fail
      obtain ⟨W2, hW2, Y, g2, hs2⟩ := sboxNew' wr a c
      rw [hW2]
      clear hW2 e0 e1
      have A2 := HA.out.kept g2
      obtain ⟨y, hy, hm2, hl2⟩ := A2.has Hq.out
      have y0 := Y.at0
      have y1 := Y.at1
      have c0 := A2.cell
      have lk := (A2.kept (gbDrew (gbRefl W2 none))).map.look a c ha hc
      rw [Hq.out] at lk
      have X2 := (X.fr HF.out (by rintro ⟨c', _, e⟩; obtain ⟨_, _, hm, _⟩ := h.out.has e; have := hm.lt; omega)).kept g2
      have x0 := X2.at0
      have x1 := X2.at1
      have x2 := X2.at2
      have q0 := hm2.c0
      have q1 := hm2.c1
      have q2 := hm2.c2
      have qf := hm2.fz
      have Hy := hideIt hy
      have HM2 := hideIt hm2
      clear hm2 hl2 hy A2
      go_wp2
      go_region
      obtain ⟨W3, hW3, HA3, HF3⟩ : ∃ W3, (((W2.setCell ⟨q, 0, none⟩ (.int .i64 on)).setCell ⟨q, 1, none⟩ (.int .i64 oa)).setCell ⟨q, 2, none⟩ (.bool ob)).drew = W3 ∧ Hid (TA W3 p b m K V (M.adp P (L.take (j + 1)) o)) ∧ Hid (Fr (M.own L K) W W3) := by
        obtain ⟨h1, h2, h3⟩ := ho.out
        obtain ⟨T, Gq⟩ := (HA.out.kept g2).setOf (s := (a, c)) (o := y.1) (l := y.2) Hq.out Hy.out o
        rw [h1, h2, h3] at T Gq
        refine ⟨_, rfl, hideIt ?_, hideIt ?_⟩
        · have e := M.adp_snoc P (L.take j) (a, c) o y.1 y.2 Hy.out
          have e2 : L.take (j + 1) = L.take j ++ [(a, c)] := by rw [List.take_add_one, Hac.out]; rfl
          rw [e2, ← e]
          exact T.kept (gbDrewN _ 1 none)
        · exact HF.out.join ((Fr.grown (O := fun i => i = q) g2).trans ((Fr.at (O := fun i => i = q) Gq rfl).trans (Fr.grown (gbDrew (gbRefl _ none))))) (fun i _ e => ⟨(a, c), HMem.out, by rw [e]; exact Hq.out⟩)
      rw [hW3]
      clear hW3
      go_wp2
      go_roundg (gk - 1)
      case rel => exact ⟨j + 1, by omega, by go_num, HA3, HF3⟩
      case measure => omega
    · have hlt' : ¬ (j : Int) < (len : Int) := by omega
      obtain rfl : j = len := by omega
      have HT : Hid (L.take j = L) := hideIt (List.take_of_length_le (by rw [hlen.out]; exact Nat.le_refl _))
      go_wp2
      exact bodyPost_end (results_none rfl _ _ _) rfl ⟨rfl, by have := HA.out; rw [HT.out] at this; exact this, (Fr.grown g0).trans HF.out⟩

set_option maxHeartbeats 400000 in
theorem adopt_nil (w : World) (p : Nat) (on oa : Int) (ob : Bool) :
    Calls Try.prog 54 #[.pointer (some ⟨p, 0, none⟩), .slice none 0 0, .agg #[.int .i64 on, .int .i64 oa, .bool ob]] w fun e w' => e = .returned (.tuple #[]) ∧ w.grownBy w' none := by
  go_enter Try.func54, Try.ntmps54
  go_wp2
  refine wp_loop_rounds 1 ?_
  rw [rounds_succ]
  go_wp2
  exact bodyPost_end (results_none rfl _ _ _) rfl ⟨rfl, gbAlloc _ _ _⟩
theorem adopt_is {w : World} {p b m : Nat} {K : Int × Int → Option Nat} {V : Int × Int → Value} {P : Vw} (h : TA w p b m K V P) (v : Value) (L : List (Int × Int)) (hv : Lst w 0 v L) (hl : L.length ≤ 1000) (on oa : Int) (ob : Bool) (o : Option (Int × Int)) (ho : oN o = on ∧ oA o = oa ∧ oB o = ob)
    (hin : ∀ c ∈ L, I64 c.1 ∧ I64 c.2 ∧ P c ≠ none) (hgq : ∀ g c q, v.ownBlock = some g → K c = some q → g ≠ q) :
    Calls Try.prog 54 #[.pointer (some ⟨p, 0, none⟩), v, .agg #[.int .i64 on, .int .i64 oa, .bool ob]] w fun e w' => e = .returned (.tuple #[]) ∧ TA w' p b m K V (M.adp P L o) ∧ Fr (M.own L K) w w' := by
  rcases hv.form with ⟨rfl, rfl⟩ | ⟨g, cap, rfl, _, _, _, _, hr⟩
  · refine (adopt_nil w p on oa ob).mono ?_
    rintro _ w1 ⟨rfl, g1⟩
    exact ⟨rfl, by rw [M.adp_nil]; exact h.kept g1, Fr.grown g1⟩
  · exact adopt_row (hideIt h) L (hideIt rfl) hl (hideIt hr) on oa ob o (hideIt ho) (hideIt hin) (hideIt (fun c q hq => hgq g c q rfl hq))

/-! ### replace -/
set_option maxHeartbeats 1000000 in
theorem rep_top {w : World} {p b m q : Nat} {K : Int × Int → Option Nat} {V : Int × Int → Value} {P : Vw} (h : Hid (TA w p b m K V P)) (n i : Int) (hn : I64 n) (hi : I64 i) (hk : Hid (K (n, i) = some q)) (l : List (Int × Int)) (hp : Hid (P (n, i) = some (none, l))) (vb : Value) :
    Calls Try.prog 55 #[.pointer (some ⟨p, 0, none⟩), sv n i, vb] w fun e w' => e = .returned (.tuple #[]) ∧ w.grownBy w' none := by
  go_enter Try.func55, Try.ntmps55
  go_upto_region 1 with fail
  obtain ⟨W, hW, X, g0, hs0⟩ := sboxNew' w n i
  rw [hW]
  clear hW
  have A0 := h.out.kept g0
  obtain ⟨y, hy, hm, hl⟩ := A0.has hk.out
  rw [hp.out] at hy; cases hy
  have x0 := X.at0
  have x1 := X.at1
  have c0 := A0.cell
  have lk := (A0.kept (gbDrew (gbRefl W none))).map.look n i hn hi
  rw [hk.out] at lk
  have q0 := hm.c0
  have q1 := hm.c1
  have q2 := hm.c2
  simp only [oN, oA, oB] at q0 q1 q2
  have lk2 := (A0.kept (gbDrew (gbAllocN (gbRefl W none) (.cells #[.int .i64 0, .int .i64 0, .bool false] 84)))).map.look n i hn hi
  rw [hk.out] at lk2
  have ga : W.grownBy (W.alloc (.cells #[.int .i64 0, .int .i64 0, .bool false] 84)) none := gbAllocN (gbRefl W none) _
  have c0' := ga.cell c0 (by simp)
  have x0' := ga.cell x0 (by simp)
  have x1' := ga.cell x1 (by simp)
  have q0' := ga.cell q0 (by simp)
  have q1' := ga.cell q1 (by simp)
  have q2' := ga.cell q2 (by simp)
  clear hm hl A0 hs0
  go_wp2
  go_region
  all_goals (go_wp2; exact bodyPost_ret (results_none rfl _ _ _) rfl ⟨rfl, gbDrew (gbAllocN g0 _)⟩)

set_option maxRecDepth 10000 in
set_option maxHeartbeats 1000000 in
theorem rep_in {w : World} {p b m q qx j j1 len cap g : Nat} {K : Int × Int → Option Nat} {V : Int × Int → Value} {P : Vw} (h : Hid (TA w p b m K V P)) (n i xn xi : Int) (hn : I64 n) (hi : I64 i) (hxn : I64 xn) (hxi : I64 xi) (hk : Hid (K (n, i) = some q)) (l : List (Int × Int)) (hp : Hid (P (n, i) = some (some (xn, xi), l)))
    (hkx : Hid (K (xn, xi) = some qx)) (o : Option (Int × Int)) (lx : List (Int × Int)) (hpx : Hid (P (xn, xi) = some (o, lx))) (hv : Hid (V (xn, xi) = .slice (some ⟨g, 0, none⟩) len cap)) (hlen : Hid (lx.length = len)) (hlen2 : len ≤ 1000) (hj : Hid (lx[j]? = some (n, i))) (hjf : Hid (∀ k, k < j → lx[k]? ≠ some (n, i))) (hj1 : j + 1 = j1)
    (vb : Value) (Kl : List (Int × Int)) (HB : Hid (Lst w 0 vb Kl)) (hbl : Hid (Kl.length ≤ 1000)) (hne : Hid (vb.ownBlock ≠ some g)) :
    Calls Try.prog 55 #[.pointer (some ⟨p, 0, none⟩), sv n i, vb] w fun e w' => e = .returned (.tuple #[]) ∧ ∃ v', (v'.ownBlock = some g ∨ ∀ g', v'.ownBlock = some g' → w.heap.size ≤ g' ∧ g' < w'.heap.size) ∧
      TA w' p b m K (fun t => if t = (xn, xi) then v' else V t) (fun t => if t = (xn, xi) then some (o, lx.take j ++ (Kl ++ lx.drop j1)) else P t) ∧ Fr (fun i' => i' = qx ∨ i' = g) w w' := by
  go_enter Try.func55, Try.ntmps55
  go_upto_region 1 with fail
  obtain ⟨W, hW, X, g0, hs0⟩ := sboxNew' w n i
  rw [hW]
  clear hW
  have A0 := h.out.kept g0
  obtain ⟨y, hy, hm, hl⟩ := A0.has hk.out
  rw [hp.out] at hy; cases hy
  have x0 := X.at0
  have x1 := X.at1
  have c0 := A0.cell
  have lk := (A0.kept (gbDrew (gbRefl W none))).map.look n i hn hi
  rw [hk.out] at lk
  have q0 := hm.c0
  have q1 := hm.c1
  have q2 := hm.c2
  simp only [oN, oA, oB] at q0 q1 q2
  have lk2 := (A0.kept (gbDrew (gbAllocN (gbRefl W none) (.cells #[.int .i64 0, .int .i64 0, .bool false] 84)))).map.look n i hn hi
  rw [hk.out] at lk2
  have ga : W.grownBy (W.alloc (.cells #[.int .i64 0, .int .i64 0, .bool false] 84)) none := gbAllocN (gbRefl W none) _
  have c0' := ga.cell c0 (by simp)
  have x0' := ga.cell x0 (by simp)
  have x1' := ga.cell x1 (by simp)
  have q0' := ga.cell q0 (by simp)
  have q1' := ga.cell q1 (by simp)
  have q2' := ga.cell q2 (by simp)
  clear hm hl A0 hs0
  go_wp2
  go_region
  all_goals (
    clear c0' x0' x1' q0' q1' q2' c0 x0 x1 q0 q1 q2 lk lk2 ga
    obtain ⟨W1, hW1, Z, g1⟩ : ∃ W1, (W.alloc (.cells #[.int .i64 xn, .int .i64 xi, .bool true] 84)).drew = W1 ∧ PBox W1 W.heap.size xn xi true ∧ W.grownBy W1 none := ⟨_, rfl, (PBox.made W xn xi true).kept (gbDrew (gbRefl _ none)), gbDrew (gbAllocN (gbRefl _ none) _)⟩
    rw [hW1]
    clear hW1
    have z2 := Z.at2
    have A1 := hideIt (h.out.kept (gbTrans g0 g1))
    go_upto_region 3 with fail
    have c0 : ∀ y : Gr W1, y.w.cell? ⟨p, 0, none⟩ = some (.map (some b)) := fun y => (A1.out.kept y.g).cell
    have z0 : ∀ y : Gr W1, y.w.cell? ⟨W.heap.size, 0, none⟩ = some (.int .i64 xn) := fun y => (Z.kept y.g).at0
    have z1 : ∀ y : Gr W1, y.w.cell? ⟨W.heap.size, 1, none⟩ = some (.int .i64 xi) := fun y => (Z.kept y.g).at1
    have lk : ∀ y : Gr W1, (Instr.lookup 80 (.map (some b)) (sv xn xi) false).run Try.prog y.w = .ok (ptr (some qx)) y.w := fun y => by rw [← hkx.out]; exact (A1.out.kept y.g).map.look xn xi hxn hxi
    refine wp_region_grown (by kernel_rfl) (by kernel_rfl) fun _ => ?_
    repeat (go_big_quiet_step (fail))
    refine wpQuiet_nil ?_
    rintro W2 ⟨⟨_, g2⟩, rfl⟩
    clear c0 z0 z1 z2 lk
    have G2 := gbTrans (gbTrans g0 g1) g2
    have A2 := hideIt (h.out.kept G2)
    obtain ⟨yx, hyx, hmx, hlx⟩ := A2.out.has hkx.out
    rw [hpx.out] at hyx; cases hyx
    rw [hv.out] at hmx hlx
    have HMx := hideIt hmx
    have HLx := hideIt hlx
    have HRx := hideIt (Lst.rowOf hlx)
    have X2 := X.kept (gbTrans g1 g2)
    have x0 : ∀ y : Gr W2, y.w.cell? ⟨w.heap.size, 0, none⟩ = some (.int .i64 n) := fun y => (X2.kept y.g).at0
    have x1 : ∀ y : Gr W2, y.w.cell? ⟨w.heap.size, 1, none⟩ = some (.int .i64 i) := fun y => (X2.kept y.g).at1
    have q3 : ∀ y : Gr W2, y.w.cell? ⟨qx, 3, none⟩ = some (.slice (some ⟨g, 0, none⟩) len cap) := fun y => y.g.cell HMx.out.c3 (by simp)
    have HI : ∀ y : Gr W2, Calls Try.prog 66 #[.slice (some ⟨g, 0, none⟩) len cap, sv n i] y.w fun e w' => e = .returned (.int .i64 j) ∧ y.w.grownBy w' none := fun y => index_row y.w g len cap j n i lx hlen hlen2 (hideIt (HRx.out.kept y.g)) hj hjf
    clear hmx hlx
    go_wp2
    refine wp_region_grown (by kernel_rfl) (by kernel_rfl) fun _ => ?_
    repeat (go_big_quiet_step ((go_at_call 66; with_reducible exact callsGr (HI _))))
    refine wpQuiet_nil ?_
    rintro W3 ⟨⟨_, g3⟩, rfl⟩
    clear x0 x1 q3 HI
    have G3 := gbTrans G2 g3
    have q3 := g3.cell HMx.out.c3 (by simp)
    have hj1' : (j : Int) + 1 = (j1 : Int) := by omega
    have hjl : Hid (j < lx.length) := hideIt (List.getElem?_eq_some_iff.1 hj.out).1
    have hj1b : j1 ≤ 1000 := by have := hjl.out; rw [hlen.out] at this; omega
    have hl1 : Hid (lx.length ≤ 1000) := hideIt (by rw [hlen.out]; exact hlen2)
    go_wp2_with fail
    refine (replace_is (HLx.out.kept g3) (HB.out.kept G3) (fun g' e => by cases e; exact hne.out) j hjl.out hl1.out hbl.out j1 hj1).mono ?_
    rintro _ W4 ⟨v4, rfl, l4, g4, o4⟩
    obtain ⟨ox, k4, c4, rfl⟩ : ∃ ox k4 c4, v4 = .slice ox k4 c4 := by
      rcases l4.form with ⟨rfl, _⟩ | ⟨_, _, rfl, _⟩
      · exact ⟨_, _, _, rfl⟩
      · exact ⟨_, _, _, rfl⟩
    have A3 := h.out.kept G3
    have hgq : g ≠ qx := A3.gq hkx.out (by rw [hv.out]; rfl) hkx.out
    have M4 : MemAt W4 qx o (.slice (some ⟨g, 0, none⟩) len cap) := (HMx.out.fr (O := fun _ => False) (Fr.grown g3) (fun e => e)).fr (O := fun i' => i' = g) (Fr.at g4 rfl) (fun e => hgq e.symm)
    obtain ⟨T, F⟩ := A3.setCh (s := (xn, xi)) (o := o) (l := lx) (w1 := W4) (v' := .slice ox k4 c4) (l' := lx.take j ++ (Kl ++ lx.drop j1)) hkx.out hpx.out (by rw [hv.out]; exact g4) l4 (by
      rw [hv.out]
      exact o4)
    rw [hv.out] at F
    have HT := hideIt T
    have HF : Hid (Fr (fun i' => i' = qx ∨ i' = g) w (W4.setCell ⟨qx, 3, none⟩ (.slice ox k4 c4))) := hideIt ((Fr.grown G3).trans (F.mono (fun i' _ e => by
      rcases e with e | e
      · exact .inl e
      · exact .inr (by simpa [Value.ownBlock] using e.symm))))
    have HO : Hid ((Value.slice ox k4 c4).ownBlock = some g ∨ ∀ g', (Value.slice ox k4 c4).ownBlock = some g' → w.heap.size ≤ g' ∧ g' < (W4.setCell ⟨qx, 3, none⟩ (.slice ox k4 c4)).heap.size) := hideIt (by
      rcases o4 with e | e
      · exact .inl e
      · exact .inr (fun g' hg' => ⟨Nat.le_trans G3.size (e g' hg'), by
          have := (l4.lt g' hg').2
          simpa [World.setCell] using this⟩))
    have q4 := M4.c3
    have f4 := M4.fz
    clear q3 l4 T F o4 M4 A3
    go_wp2
    exact bodyPost_end (results_none rfl _ _ _) rfl ⟨rfl, _, HO.out, HT.out, HF.out⟩)

end T9
end Go.Proofs.Ytkpcdfiebjigbaa
