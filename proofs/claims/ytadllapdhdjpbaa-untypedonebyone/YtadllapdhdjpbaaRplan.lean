/-
  THE CONTRACT of the document's Plan (donjonref06): the same plain function as package untyped's.
-/
import Derived.Test.YtadllapdhdjpbaaPlan
namespace Go.Proofs.Ytadllapdhdjpbaa
open Go.RowKit

set_option maxHeartbeats 1000000 in
theorem rplan_err (A B u k n c b e : Int) (w : World) (hb : M.bts k n = (b, e)) (he : e ≠ 0) :
    Calls Try.prog 11 #[sp A B, .int .i64 u, .int .i64 k, .int .i64 n, .int .i64 c] w fun r w' => r = .returned (.tuple #[.slice none 0 0, .int .i64 0, .int .i64 e]) ∧ w.grownBy w' none := by
  have HB := fun w => rbits_is k n b e hb w
  have h1 : (e != 0) = true := by simpa using he
  clear hb he
  go_enter Try.func11, Try.ntmps11
  go_wp2_with fail
  refine (HB _).mono ?_
  rintro r w1 ⟨rfl, rfl⟩
  go_wp2
  go_ret3
  exact ⟨rfl, gbAlloc _ _ _⟩

theorem M.range_ways (A B u c : Int) (h : ¬ (M.usd A B u = true ∧ 1 ≤ c ∧ c ≤ 16)) : M.rgt A B = false ∨ (∃ d p : Nat, M.rgt A B = true ∧ B = (d : Int) ∧ wrap64 (2 ^ d) = (p : Int) ∧ d ≤ 16 ∧
    (decide (u < 0) = true ∨ decide (u < 0) = false ∧ decide ((p : Int) < u) = true ∨ decide (u < 0) = false ∧ decide ((p : Int) < u) = false ∧ decide (c < 1) = true ∨
     decide (u < 0) = false ∧ decide ((p : Int) < u) = false ∧ decide (c < 1) = false ∧ decide (16 < c) = true)) := by
  rcases M.usd_ways A B u with ⟨h1, h2⟩ | ⟨a, b, m, rfl, rfl, hb, hm, m1, m2, m3, h1, hpw, hh⟩
  · exact .inl h1
  · right
    refine ⟨b, m, h1, rfl, M.shl_val b m hb hm, hb, ?_⟩
    rcases hh with ⟨c1, h2⟩ | ⟨c1, c2, h2⟩ | ⟨c1, c2, h2⟩
    · exact .inl (decide_eq_true c1)
    · exact .inr (.inl ⟨decide_eq_false (by omega), decide_eq_true c2⟩)
    · by_cases d1 : c < 1
      · exact .inr (.inr (.inl ⟨decide_eq_false (by omega), decide_eq_false (by omega), decide_eq_true d1⟩))
      · refine .inr (.inr (.inr ⟨decide_eq_false (by omega), decide_eq_false (by omega), decide_eq_false d1, decide_eq_true ?_⟩))
        by_cases d2 : c ≤ 16
        · exact absurd ⟨h2, by omega, d2⟩ h
        · omega

set_option maxHeartbeats 1000000 in
theorem rplan_range (A B u k n c : Int) (b : Nat) (w : World) (hb : M.bts k n = ((b : Int), 0)) (h : ¬ (M.usd A B u = true ∧ 1 ≤ c ∧ c ≤ 16)) :
    Calls Try.prog 11 #[sp A B, .int .i64 u, .int .i64 k, .int .i64 n, .int .i64 c] w fun r w' => r = .returned (.tuple #[.slice none 0 0, .int .i64 0, .int .i64 1]) ∧ w.grownBy w' none := by
  have HB := fun w => rbits_is k n b 0 hb w
  have B0 := Box.made w A B
  rcases M.range_ways A B u c h with h1 | ⟨d, p, h1, rfl, hsh, hd, hh⟩
  · have HU := fun w => rright_is A B false h1 w
    clear hb h h1
    go_enter Try.func11, Try.ntmps11
    go_wp2_with fail
    refine (HB _).mono ?_
    rintro r w1 ⟨rfl, rfl⟩
    go_wp2_with fail
    refine (HU _).mono ?_
    rintro r w2 ⟨rfl, g2⟩
    go_wp2
    go_ret3
    exact ⟨rfl, gbTrans (gbAlloc _ _ _) g2⟩
  · have HU := fun w => rright_is A d true h1 w
    clear hb h h1
    rcases hh with d1 | ⟨d1, d2⟩ | ⟨d1, d2, d3⟩ | ⟨d1, d2, d3, d4⟩
    all_goals
      go_enter Try.func11, Try.ntmps11
      go_wp2_with fail
      refine (HB _).mono ?_
      rintro r w1 ⟨rfl, rfl⟩
      go_wp2_with fail
      refine (HU _).mono ?_
      rintro r w2 ⟨rfl, g2⟩
      have B2 := B0.kept g2
      have e0 := B2.at0
      have e1 := B2.at1
      go_wp2
      go_ret3
      exact ⟨rfl, gbTrans (gbAlloc _ _ _) g2⟩

theorem rowSing {w : World} {k : Nat} {A B : Int} (h : Box w k A B) : Row w ⟨k, 0, none⟩ [(A, B)] := by
  intro i p hp
  cases i with
  | zero => simp at hp; subst hp; exact ⟨h.at0, h.at1⟩
  | succ i => simp at hp

/-- Facts of a round. -/
theorem M.at_facts (f m x j y : Nat) (hf : f ≤ 300000) (m1 : 1 ≤ m) (m2 : m ≤ 65536) (x2 : x ≤ 16) (hj : j < x) (hy : f + j * m = y) : y ≤ 2000000 ∧ ∃ z : Nat, f + (j + 1) * m = z ∧ (y : Int) + (m : Int) = (z : Int) ∧ z ≤ 2000000 := by
  have h : j * m ≤ 15 * 65536 := Nat.mul_le_mul (by omega) m2
  have e : (j + 1) * m = j * m + m := Nat.succ_mul j m
  exact ⟨by omega, y + m, by omega, by omega, by omega⟩
theorem M.end_le (f m x y : Nat) (hf : f ≤ 300000) (m2 : m ≤ 65536) (x2 : x ≤ 16) (hy : f + x * m = y) : y ≤ 2000000 := by
  have h : x * m ≤ 16 * 65536 := Nat.mul_le_mul x2 m2
  omega
theorem M.doc_facts (a p s m x f : Nat) (p2 : a + p ≤ 65536) (hs : s ≤ p) (x1 : 1 ≤ x) (x2 : x ≤ 16) (f2 : f < a + s + m) (m2 : m ≤ 65536) : a + s ≤ 1099511627776 ∧ f ≤ 300000 ∧ decide ((s : Int) < 0) = false ∧ decide ((p : Int) < (s : Int)) = false ∧
    decide ((x : Int) < 1) = false ∧ decide ((16 : Int) < (x : Int)) = false ∧ (∃ t : Nat, (a : Int) + (s : Int) = (t : Int) ∧ Hid (a + s = t) ∧ (t : Int) ≤ 200000) ∧ ((0 : Int) ≤ (a : Int)) ∧ ((a : Int) ≤ 65536) :=
  ⟨by omega, by omega, decide_eq_false (by omega), decide_eq_false (by omega), decide_eq_false (by omega), decide_eq_false (by omega), ⟨a + s, by omega, hideIt rfl, by omega⟩, by omega, by omega⟩

set_option maxHeartbeats 2000000 in
theorem rplan_in (A B u k n c : Int) (a d p s b m x f y : Nat) (w : World) (F : M.Fits A B u k n c a d p s b m x f) (hy : f + x * m = y) :
    Calls Try.prog 11 #[sp A B, .int .i64 u, .int .i64 k, .int .i64 n, .int .i64 c] w fun r w' => ∃ v, (r = .returned (.tuple #[.slice none 0 0, .int .i64 0, .int .i64 7]) ∧ a + p < y ∨ r = .returned (.tuple #[v, .int .i64 (y - a : Nat), .int .i64 0]) ∧ y ≤ a + p) ∧ Lst w' w.heap.size v (M.rowL f m b x) ∧ w.grownBy w' none := by
  obtain ⟨rfl, rfl, rfl, rfl, hb, d16, hp, p1, p2, al, sp', b16, hm, m1, m2, x1, x2, hf, f1, f2, f3, hok⟩ := F
  have HB := fun w => rbits_is k n b 0 hb w
  have hr : M.rgt a d = true := by unfold M.usd at hok; simp only [Bool.and_eq_true] at hok; exact hok.1
  have HU := fun w => rright_is a d true hr w
  obtain ⟨q1, q2, c1, c2, c3, c4, ⟨t, ht, ht', ht1⟩, q3, q4⟩ := M.doc_facts a p s m x f p2 sp' x1 x2 f2 m2
  have HP := fun w => rup_is (a + s) b f w q1 (M.le40 b16) hf
  have HE := fun w => rend_any a d p w d16 hp q3 q4
  have hsh := M.shl_val d p d16 hp
  have hsm := M.shl_val b m b16 hm
  rw [ht'.out] at HP
  have B0 := Box.made w a d
  have HY : Hid (f + x * m = y) := hideIt hy
  have hfa : a ≤ f := Nat.le_trans (Nat.le_add_right _ _) f1
  clear hb hok hp hm hf al f3 f1 f2 hr hy
  go_enter Try.func11, Try.ntmps11
  go_wp2_with fail
  refine (HB _).mono ?_
  rintro r w1 ⟨rfl, rfl⟩
  go_wp2_with fail
  refine (HU _).mono ?_
  rintro r w2 ⟨rfl, g2⟩
  have B2 := B0.kept g2
  have e0 := B2.at0
  have e1 := B2.at1
  go_wp2_with fail
  refine (HP _).mono ?_
  rintro r w3 ⟨rfl, rfl⟩
  go_wp2
  have G3 : w.grownBy w3 none := gbTrans (gbAlloc _ _ _) g2
  clear e0 e1 B0 g2
  go_loopg [15, 17, 18] x (fun g at_ v i wr => ∃ j z : Nat, j + g = x ∧ i = .int .i64 j ∧ at_ = .int .i64 z ∧ Hid (f + j * m = z) ∧ Hid (Lst wr (w.heap.size + 1) v (M.rowL f m b j)) ∧ Box wr w.heap.size a d ∧ w.grownBy wr none)
  case atStart => exact ⟨0, f, by omega, rfl, rfl, hideIt (by simp), hideIt (Lst.nil _ _), B2, G3⟩
  case round =>
    obtain ⟨j, z, hj, rfl, rfl, HZ, HV, X, gw⟩ := hrel
    clear B2 G3
    by_cases hlt : j < x
    · obtain ⟨hz, z', hz', hzz, hz2⟩ := M.at_facts f m x j z q2 m1 m2 x2 hlt HZ.out
      have HZ' : Hid (f + (j + 1) * m = z') := hideIt hz'
      have hlt' : (j : Int) < (x : Int) := by omega
      clear hz'
      have Y := Box.made wr z b
      have gY := gbAlloc wr (.cells #[.int .i64 z, .int .i64 b] 23) none
      have hown := HV.out.lt
      have HV1 := hideIt (HV.out.kept gY)
      have HR1 := hideIt (rowSing Y)
      have HLn : Hid ((M.rowL f m b j).length + 1 ≤ 1000000) := hideIt (by rw [M.rowL_len]; omega)
      have HS : Hid (M.rowL f m b j ++ [((z : Int), (b : Int))] = M.rowL f m b (j + 1)) := hideIt (by rw [M.rowL_succ, HZ.out])
      have X1 := X.kept gY
      have hsz := X.lt
      have hB : w.heap.size + 1 ≤ (wr.alloc (.cells #[.int .i64 z, .int .i64 b] 23)).heap.size := Nat.le_trans hsz gY.size
      go_wp2_with (at_builtin; refine wpList_append_span rfl (.tmp 64) (.tmp 68) rfl (w.heap.size + 1) _ (M.rowL f m b j) rfl HV1.out ⟨wr.heap.size, 0, none⟩ 1 1 [((z : Int), (b : Int))] rfl rfl HR1.out HLn.out hB ?_; intro v2 w2 ho2 hg2; have ho2 : Hid (Lst w2 (w.heap.size + 1) v2 (M.rowL f m b j ++ [((z : Int), (b : Int))])) := ho2)
      have hg2 : (wr.alloc (.cells #[.int .i64 z, .int .i64 b] 23)).grownBy w2 u17.ownBlock := hg2
      go_roundg (gk - 1)
      case rel => exact ⟨j + 1, z', by omega, by go_num, rfl, HZ', hideIt (by rw [← HS.out]; exact ho2.out), X1.keep hg2 (fun e => by have := (hown _ e.symm).1; omega), gbNews (gbTrans (gbAny (gbTrans gw gY) _) hg2) (fun k e => by have := (hown k e).1; omega)⟩
      case measure => omega
    · obtain rfl : j = x := by omega
      obtain rfl : y = z := HY.out.symm.trans HZ.out
      have x0 := X.at0
      have x1 := X.at1
      obtain ⟨hy2, q, hq, hq2⟩ : y ≤ 2000000 ∧ ∃ q : Nat, (a : Int) + (p : Int) = (q : Int) ∧ Hid (a + p = q) := ⟨M.end_le f m j y q2 m2 x2 HZ.out, a + p, by simp, hideIt rfl⟩
      have hay : a ≤ y := Nat.le_trans hfa (HZ.out ▸ Nat.le_add_right _ _)
      have hya : (y : Int) - (a : Int) = ((y - a : Nat) : Int) := by omega
      go_wp2_with fail
      refine (HE _).mono ?_
      rintro r w5 ⟨rfl, g5⟩
      have X5 := X.kept g5
      have e0 := X5.at0
      have e1 := X5.at1
      have HV5 := hideIt ((HV.out.kept g5).lower (Nat.le_succ _))
      by_cases hc : q < y
      · have hc' : (q : Int) < (y : Int) := by omega
        go_wp2
        go_ret3
        exact ⟨_, .inl ⟨rfl, by rw [hq2.out]; exact hc⟩, HV5.out, gbTrans gw g5⟩
      · have hc' : ¬ (q : Int) < (y : Int) := by omega
        go_wp2
        go_quiet (fail)
        go_wp2
        go_ret3
        exact ⟨_, .inr ⟨rfl, by rw [hq2.out]; omega⟩, HV5.out, gbTrans gw (gbTrans g5 (gbDrewN _ _ _))⟩

theorem rplan_is (A B u k n c r e : Int) (L : List (Int × Int)) (h : M.pln A B u k n c = (L, r, e)) (w : World) :
    Calls Try.prog 11 #[sp A B, .int .i64 u, .int .i64 k, .int .i64 n, .int .i64 c] w fun x w' => ∃ v, x = .returned (.tuple #[v, .int .i64 r, .int .i64 e]) ∧ Lst w' w.heap.size v L ∧ w.grownBy w' none := by
  rcases M.ways6 A B u k n c with ⟨b, e', hb, he, q⟩ | ⟨b, hb, _, hk, q⟩ | ⟨a, d, p, s, b, m, x, f, F, ⟨hy, q⟩ | ⟨hy, q⟩⟩
  · rw [q] at h; simp only [Prod.mk.injEq] at h; obtain ⟨rfl, rfl, rfl⟩ := h
    exact (rplan_err A B u k n c b e' w hb he).mono fun _ _ ⟨h1, h2⟩ => ⟨_, h1, Lst.nil _ _, h2⟩
  · rw [q] at h; simp only [Prod.mk.injEq] at h; obtain ⟨rfl, rfl, rfl⟩ := h
    exact (rplan_range A B u k n c b w hb hk).mono fun _ _ ⟨h1, h2⟩ => ⟨_, h1, Lst.nil _ _, h2⟩
  · rw [q] at h; simp only [Prod.mk.injEq] at h; obtain ⟨rfl, rfl, rfl⟩ := h
    refine (rplan_in A B u k n c a d p s b m x f _ w F rfl).mono ?_
    rintro r w' ⟨v, ⟨rfl, _⟩ | ⟨_, hn⟩, _, g⟩
    · exact ⟨_, rfl, Lst.nil _ _, g⟩
    · exact absurd hy (Nat.not_lt.2 hn)
  · rw [q] at h; simp only [Prod.mk.injEq] at h; obtain ⟨rfl, rfl, rfl⟩ := h
    refine (rplan_in A B u k n c a d p s b m x f _ w F rfl).mono ?_
    rintro r w' ⟨v, ⟨_, hn⟩ | ⟨rfl, _⟩, hl, g⟩
    · exact absurd hy (Nat.not_le.2 hn)
    · exact ⟨_, rfl, hl, g⟩

end Go.Proofs.Ytadllapdhdjpbaa
