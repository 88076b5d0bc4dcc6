/-
  THE CONTRACT of package untyped's Plan.
-/
import Derived.Test.YtadllapdhdjpbaaRow
namespace Go.Proofs.Ytadllapdhdjpbaa
open Go.RowKit

theorem Lst.lower {w : World} {B B' : Nat} {v : Value} {L : List (Int × Int)} (h : Lst w B v L) (hB : B' ≤ B) : Lst w B' v L := by
  refine ⟨h.1, ?_⟩
  rcases h.2 with h1 | ⟨g, cap, cur, h1, h2, h3⟩
  · exact .inl h1
  · exact .inr ⟨g, cap, cur, h1, Nat.le_trans hB h2, h3⟩
theorem M.shlx (x b m y : Nat) (hb : b ≤ 16) (hm : 2 ^ b = m) (hx : x ≤ 16) (hy : x * m = y) : wrap64 ((x : Int) * 2 ^ b) = (y : Int) := by
  have := M.pow_le16 b hb
  rw [hm] at this
  have h2 : x * m ≤ 16 * 65536 := Nat.mul_le_mul hx this.2
  rw [show ((x : Int) * 2 ^ b) = ((x * 2 ^ b : Nat) : Int) by simp, hm, hy]
  rw [hy] at h2
  unfold wrap64; omega

set_option maxHeartbeats 1000000 in
theorem plan_err (A B u k n c b e : Int) (w : World) (hb : M.bts k n = (b, e)) (he : e ≠ 0) :
    Calls Try.prog 10 #[sp A B, .int .i64 u, .int .i64 k, .int .i64 n, .int .i64 c] w fun r w' => r = .returned (.tuple #[.slice none 0 0, .int .i64 0, .int .i64 e]) ∧ w.grownBy w' none := by
  have HB := fun w => bits_is k n b e hb w
  have h1 : (e != 0) = true := by simpa using he
  clear hb he
  go_enter Try.func10, Try.ntmps10
  go_wp2_with fail
  refine (HB _).mono ?_
  rintro r w1 ⟨rfl, rfl⟩
  go_wp2
  go_ret3
  exact ⟨rfl, gbAlloc _ _ _⟩

set_option maxHeartbeats 1000000 in
theorem plan_range (A B u k n c : Int) (b : Nat) (w : World) (hb : M.bts k n = ((b : Int), 0)) (h : ¬ (M.usd A B u = true ∧ 1 ≤ c ∧ c ≤ 16)) :
    Calls Try.prog 10 #[sp A B, .int .i64 u, .int .i64 k, .int .i64 n, .int .i64 c] w fun r w' => r = .returned (.tuple #[.slice none 0 0, .int .i64 0, .int .i64 1]) ∧ w.grownBy w' none := by
  have HB := fun w => bits_is k n b 0 hb w
  obtain ⟨v, hv⟩ : ∃ v, M.usd A B u = v := ⟨_, rfl⟩
  have HU := fun w => used_is A B u v hv w
  have hw : v = false ∨ (v = true ∧ decide (c < 1) = true) ∨ (v = true ∧ decide (c < 1) = false ∧ decide (16 < c) = true) := by
    rw [hv] at h
    cases v
    · exact .inl rfl
    · by_cases c1 : c < 1
      · exact .inr (.inl ⟨rfl, decide_eq_true c1⟩)
      · exact .inr (.inr ⟨rfl, decide_eq_false c1, decide_eq_true (by simp at h; omega)⟩)
  clear hb h hv
  rcases hw with rfl | ⟨rfl, d1⟩ | ⟨rfl, d1, d2⟩
  all_goals
    go_enter Try.func10, Try.ntmps10
    go_wp2_with fail
    refine (HB _).mono ?_
    rintro r w1 ⟨rfl, rfl⟩
    go_wp2_with fail
    refine (HU _).mono ?_
    rintro r w2 ⟨rfl, g2⟩
    go_wp2
    go_ret3
    exact ⟨rfl, gbTrans (gbAlloc _ _ _) g2⟩

theorem M.plan_facts (a p s m x f y : Nat) (p2 : a + p ≤ 65536) (hs : s ≤ p) (m2 : m ≤ 65536) (x1 : 1 ≤ x) (x2 : x ≤ 16) (f2 : f < a + s + m) (hxy : x * m = y) :
    a + s ≤ 1099511627776 ∧ y ≤ 16 * 65536 ∧ decide ((x : Int) < 1) = false ∧ decide ((16 : Int) < (x : Int)) = false ∧ (∃ t : Nat, (a : Int) + (s : Int) = (t : Int) ∧ Hid (a + s = t) ∧ (t : Int) ≤ 200000) ∧ f ≤ 300000 ∧
    (∃ e : Nat, (f : Int) + (y : Int) = (e : Int) ∧ e ≤ 2000000 ∧ (∃ q : Nat, (a : Int) + (p : Int) = (q : Int) ∧ q ≤ 65536 ∧ (a + p < f + y → (q : Int) < (e : Int)) ∧ (f + y ≤ a + p → ¬ (q : Int) < (e : Int))) ∧ (a ≤ f → ∀ z, f + y - a = z → (e : Int) - (a : Int) = (z : Int) ∧ z ≤ 2000000 ∧ IntKind.i64.wrap (z : Int) = (z : Int))) := by
  have h : x * m ≤ 16 * 65536 := Nat.mul_le_mul x2 m2
  rw [hxy] at h
  exact ⟨by omega, h, decide_eq_false (by omega), decide_eq_false (by omega), ⟨a + s, by omega, hideIt rfl, by omega⟩, by omega, ⟨f + y, by omega, by omega, ⟨a + p, by omega, by omega, fun _ => by omega, fun _ => by omega⟩, fun _ z hz => ⟨by omega, by omega, by rw [IntKind.wrap_i64]; omega⟩⟩⟩
theorem M.le40 {b : Nat} (h : b ≤ 16) : b ≤ 40 := by omega

set_option maxHeartbeats 2000000 in
theorem plan_full (A B u k n c : Int) (a d p s b m x f : Nat) (w : World) (F : M.Fits A B u k n c a d p s b m x f) (hy : a + p < f + x * m) :
    Calls Try.prog 10 #[sp A B, .int .i64 u, .int .i64 k, .int .i64 n, .int .i64 c] w fun r w' => r = .returned (.tuple #[.slice none 0 0, .int .i64 0, .int .i64 7]) ∧ w.grownBy w' none := by
  obtain ⟨rfl, rfl, rfl, rfl, hb, d16, hp, p1, p2, al, sp', b16, hm, m1, m2, x1, x2, hf, f1, f2, f3, hok⟩ := F
  have HB := fun w => bits_is k n b 0 hb w
  have HU := fun w => used_is a d s true hok w
  obtain ⟨y, hxy⟩ : ∃ y, x * m = y := ⟨_, rfl⟩
  obtain ⟨q1, q2, c1, c2, ⟨t, ht, ht', ht1⟩, q3, ⟨e, he, he2, ⟨q, hq, hq2, q5, q6⟩, q7⟩⟩ := M.plan_facts a p s m x f y p2 sp' m2 x1 x2 f2 hxy
  have HP := fun w => up_is (a + s) b f w q1 (M.le40 b16) hf
  have HL := fun w => ulen_any a d p w d16 hp
  have hsh := M.shlx x b m y b16 hm x2 hxy
  rw [hxy] at hy
  rw [ht'.out] at HP
  have B0 := Box.made w a d
  have hy3 := q5 hy
  clear hb hok hp hm hf hxy al f3 f1 f2 hy q5 q6 q7
  go_enter Try.func10, Try.ntmps10
  go_wp2_with fail
  refine (HB _).mono ?_
  rintro r w1 ⟨rfl, rfl⟩
  go_wp2_with fail
  refine (HU _).mono ?_
  rintro r w2 ⟨rfl, g2⟩
  have B2 := B0.kept g2
  have e0 := B2.at0
  have e1 := B2.at1
  go_wp2_with fail
  refine (HP _).mono ?_
  rintro r w3 ⟨rfl, rfl⟩
  obtain ⟨i0, i1⟩ := B2.all
  go_wp2
  refine wp_region_grown (by kernel_rfl) (by kernel_rfl) fun _ => ?_
  repeat (go_big_quiet_step ((go_at_call 22; with_reducible exact callsGr (HL _))))
  refine wpQuiet_nil ?_
  rintro w4 ⟨⟨_, g4⟩, rfl⟩
  go_wp2
  go_ret3
  exact ⟨rfl, gbTrans (gbTrans (gbAlloc _ _ _) g2) g4⟩

set_option maxHeartbeats 2000000 in
theorem plan_yes (A B u k n c : Int) (a d p s b m x f z : Nat) (w : World) (F : M.Fits A B u k n c a d p s b m x f) (hy : f + x * m ≤ a + p) (hz : f + x * m - a = z) :
    Calls Try.prog 10 #[sp A B, .int .i64 u, .int .i64 k, .int .i64 n, .int .i64 c] w fun r w' => ∃ v, r = .returned (.tuple #[v, .int .i64 z, .int .i64 0]) ∧ Lst w' w.heap.size v (M.rowL f m b x) ∧ w.grownBy w' none := by
  obtain ⟨rfl, rfl, rfl, rfl, hb, d16, hp, p1, p2, al, sp', b16, hm, m1, m2, x1, x2, hf, f1, f2, f3, hok⟩ := F
  have HB := fun w => bits_is k n b 0 hb w
  have HU := fun w => used_is a d s true hok w
  obtain ⟨y, hxy⟩ : ∃ y, x * m = y := ⟨_, rfl⟩
  obtain ⟨q1, q2, c1, c2, ⟨t, ht, ht', ht1⟩, q3, ⟨e, he, he2, ⟨q, hq, hq2, q5, q6⟩, q7⟩⟩ := M.plan_facts a p s m x f y p2 sp' m2 x1 x2 f2 hxy
  have HP := fun w => up_is (a + s) b f w q1 (M.le40 b16) hf
  have HL := fun w => ulen_any a d p w d16 hp
  have HR := fun w => row_any f b m x w b16 hm (Nat.le_trans q3 (by decide)) x2
  have hsh := M.shlx x b m y b16 hm x2 hxy
  rw [hxy] at hy hz
  rw [ht'.out] at HP
  have B0 := Box.made w a d
  have hy3 := q6 hy
  have hz3 := q7 (Nat.le_trans (Nat.le_add_right _ _) f1) z hz
  obtain ⟨hz3, hz4, hz5⟩ := hz3
  clear hb hok hp hm hf hxy al f3 f1 f2 hy hz q5 q6 q7
  go_enter Try.func10, Try.ntmps10
  go_wp2_with fail
  refine (HB _).mono ?_
  rintro r w1 ⟨rfl, rfl⟩
  go_wp2_with fail
  refine (HU _).mono ?_
  rintro r w2 ⟨rfl, g2⟩
  have B2 := B0.kept g2
  have e0 := B2.at0
  have e1 := B2.at1
  go_wp2_with fail
  refine (HP _).mono ?_
  rintro r w3 ⟨rfl, rfl⟩
  obtain ⟨i0, i1⟩ := B2.all
  go_wp2
  refine wp_region_grown (by kernel_rfl) (by kernel_rfl) fun _ => ?_
  repeat (go_big_quiet_step ((go_at_call 22; with_reducible exact callsGr (HL _))))
  refine wpQuiet_nil ?_
  rintro w4 ⟨⟨_, g4⟩, rfl⟩
  have B4 := B2.kept g4
  clear e0 e1 i0 i1
  have e0 := B4.at0
  have e1 := B4.at1
  go_wp2
  go_region_held3 (fun w' => w'.cell? ⟨w.heap.size, 0, none⟩ = some (.int .i64 a)) (first | exact e0 | go_keep | exact (B4.kept G1).at0 | fail)
    ((go_at_call 23; refine (HR _).mono ?_; rintro e w5 ⟨v, rfl, HV, g5⟩; have G1 : w4.grownBy w5 none := gbTrans (gbDrewN w4 1 none) g5))
  rename_i hold
  clear hold
  have HV : Hid (Lst w5 w4.drew.heap.size v (M.rowL f m b x)) := hideIt HV
  have G : w.grownBy w5 none := gbTrans (gbTrans (gbTrans (gbAlloc _ _ _) g2) g4) G1
  have hs := (gbTrans (gbTrans (gbAlloc w (.cells #[.int .i64 a, .int .i64 d] 23) none) g2) g4).size
  go_wp2
  go_ret3
  exact ⟨v, rfl, HV.out.lower hs, G⟩

/-- Plan, whatever comes in. -/
theorem plan_is (A B u k n c r e : Int) (L : List (Int × Int)) (h : M.pln A B u k n c = (L, r, e)) (w : World) :
    Calls Try.prog 10 #[sp A B, .int .i64 u, .int .i64 k, .int .i64 n, .int .i64 c] w fun x w' => ∃ v, x = .returned (.tuple #[v, .int .i64 r, .int .i64 e]) ∧ Lst w' w.heap.size v L ∧ w.grownBy w' none := by
  rcases M.ways6 A B u k n c with ⟨b, e', hb, he, q⟩ | ⟨b, hb, _, hk, q⟩ | ⟨a, d, p, s, b, m, x, f, F, ⟨hy, q⟩ | ⟨hy, q⟩⟩
  · rw [q] at h; simp only [Prod.mk.injEq] at h; obtain ⟨rfl, rfl, rfl⟩ := h
    exact (plan_err A B u k n c b e' w hb he).mono fun _ _ ⟨h1, h2⟩ => ⟨_, h1, Lst.nil _ _, h2⟩
  · rw [q] at h; simp only [Prod.mk.injEq] at h; obtain ⟨rfl, rfl, rfl⟩ := h
    exact (plan_range A B u k n c b w hb hk).mono fun _ _ ⟨h1, h2⟩ => ⟨_, h1, Lst.nil _ _, h2⟩
  · rw [q] at h; simp only [Prod.mk.injEq] at h; obtain ⟨rfl, rfl, rfl⟩ := h
    exact (plan_full A B u k n c a d p s b m x f w F hy).mono fun _ _ ⟨h1, h2⟩ => ⟨_, h1, Lst.nil _ _, h2⟩
  · rw [q] at h; simp only [Prod.mk.injEq] at h; obtain ⟨rfl, rfl, rfl⟩ := h
    exact plan_yes A B u k n c a d p s b m x f _ w F hy rfl

end Go.Proofs.Ytadllapdhdjpbaa
