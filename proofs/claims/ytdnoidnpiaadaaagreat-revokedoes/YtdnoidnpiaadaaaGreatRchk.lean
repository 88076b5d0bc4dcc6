/-
  THE DOCUMENT'S SIDE (donjonref05): Check.
-/
import Derived.Test.YtdnoidnpiaadaaaGreatG3
import Derived.Test.YtdnoidnpiaadaaaGreatG5
import Derived.Deep.Cut
namespace Go.Proofs.YtdnoidnpiaadaaaGreat
set_option maxRecDepth 10000
open Go.RowKit

set_option maxHeartbeats 400000 in
theorem badged_is (k : Int) (v : Bool) (h : M.bgd k = v) (w : World) : Calls Tryz.prog 118 #[.int .i64 k] w fun e w' => e = .returned (.bool v) ∧ w' = w := by
  subst h
  by_cases c1 : k = 4
  · go_enter Tryz.func118, Tryz.ntmps118
    go_wp2
    go_ret
    exact ⟨ret_bool (by simp [M.bgd, c1]), rfl⟩
  · go_enter Tryz.func118, Tryz.ntmps118
    go_wp2
    go_ret
    exact ⟨ret_bool (by simp [M.bgd]), rfl⟩

set_option maxHeartbeats 400000 in
theorem righted_is (k : Int) (v : Bool) (h : M.rgd k = v) (w : World) : Calls Tryz.prog 116 #[.int .i64 k] w fun e w' => e = .returned (.bool v) ∧ w' = w := by
  subst h
  by_cases c1 : k = 4
  · go_enter Tryz.func116, Tryz.ntmps116
    go_wp2
    go_ret
    exact ⟨ret_bool (by simp [M.rgd, c1]), rfl⟩
  · by_cases c2 : k = 5
    all_goals
      go_enter Tryz.func116, Tryz.ntmps116
      go_wp2
      go_ret
      exact ⟨ret_bool (by simp [M.rgd, c2]), rfl⟩

theorem shl_one (n : Nat) (h : n ≤ 16) : IntKind.u64.wrap (2 ^ n) = ((2 ^ n : Nat) : Int) := by
  have : 2 ^ n ≤ 2 ^ 16 := Nat.pow_le_pow_right (by omega) h
  have e : ((2 : Int) ^ n) = ((2 ^ n : Nat) : Int) := by simp
  rw [e, IntKind.wrap_u64]
  generalize 2 ^ n = p at *
  omega

set_option maxHeartbeats 400000 in
theorem guarded_is (g n : Int) (v : Bool) (h : M.grd g n = v) (w : World) : Calls Tryz.prog 119 #[.int .u64 g, .int .i64 n] w fun e w' => e = .returned (.bool v) ∧ w' = w := by
  subst h
  unfold M.grd
  by_cases c1 : 0 ≤ n
  · by_cases c2 : n ≤ 16
    · obtain ⟨m, rfl⟩ : ∃ m : Nat, n = m := ⟨n.toNat, by omega⟩
      have hs := shl_one m (by omega)
      have hb : M.blw g m = decide (g < ((2 ^ m : Nat) : Int)) := by unfold M.blw; simp
      obtain ⟨p, hp⟩ : ∃ p, 2 ^ m = p := ⟨_, rfl⟩
      rw [hp] at hs hb
      clear hp
      rw [hb]
      clear hb
      go_enter Tryz.func119, Tryz.ntmps119
      go_wp2
      go_ret
      exact ⟨ret_bool (by simp; omega), rfl⟩
    · go_enter Tryz.func119, Tryz.ntmps119
      go_wp2
      go_ret
      exact ⟨ret_bool (by simp; intros; omega), rfl⟩
  · go_enter Tryz.func119, Tryz.ntmps119
    go_wp2
    go_ret
    exact ⟨ret_bool (by simp; intros; omega), rfl⟩

theorem M.blw28 (b : Int) : M.blw b 28 = decide (b < 268435456) := rfl

theorem M.fit_node (o r b g n : Int) : M.fit ⟨2, o, r, b, g, n⟩ = (r == 0 && b == 0) := Bool.and_true _
theorem M.fit_other (k o r b g n : Int) (h1 : M.rgd k = false) (h2 : M.bgd k = false) (e0 : (k == 0) = false) (e10 : (k == 10) = false) (e2 : (k == 2) = false) : M.fit ⟨k, o, r, b, g, n⟩ = (r == 0 && b == 0 && n == 0) := by
  unfold M.fit M.nul
  simp only [h1, h2, e0, e10, e2, Bool.or_false, Bool.false_or, Bool.not_false, Bool.true_or, Bool.true_and]

set_option maxHeartbeats 2000000 in
theorem rcheck_in (k o r b g n u : Int) (v : Bool) (k0 : 0 ≤ k) (k11 : k ≤ 11) (hv : Hid (M.bnd ⟨k, o, r, b, g, n⟩ = v)) (hu : Hid ((if v && M.fit ⟨k, o, r, b, g, n⟩ then 0 else 10) = u)) (w : World) :
    Calls Tryz.prog 110 #[cv ⟨k, o, r, b, g, n⟩] w fun e w' => e = .returned (.int .i64 u) ∧ w.grownBy w' none := by
  go_enter Tryz.func110, Tryz.ntmps110
  go_upto_region 3 with fail
  obtain ⟨W0, hW0, X0, G0⟩ := boxNew w ⟨k, o, r, b, g, n⟩
  simp only at hW0
  rw [hW0]
  clear hW0
  obtain ⟨a0, a1, a2, a3, a4, a5, _, _⟩ := X0
  simp only at a0 a1 a2 a3 a4 a5
  go_cut [3] from 12 (fun s wc => s = .bool v ∧ wc = W0)
  case first =>
    have hb : v = (decide (0 ≤ o) && decide (o ≤ 63) && M.ck r && decide (b < 268435456) && M.grd g n) := hv.out.symm
    clear hv hu
    by_cases c1 : 0 ≤ o
    · by_cases c2 : o ≤ 63
      · cases c3 : M.ck r
        · obtain rfl : v = false := by rw [hb]; simp [c3]
          clear hb
          go_wp2_with fail
          refine (rcheck_is r false c3 _).mono ?_
          rintro e w' ⟨rfl, rfl⟩
          go_wp2_with fail
          go_meet
          exact ⟨rfl, rfl⟩
        · by_cases c4 : b < 268435456
          · cases c5 : M.grd g n
            · obtain rfl : v = false := by rw [hb]; simp [c5]
              clear hb
              go_wp2_with fail
              refine (rcheck_is r true c3 _).mono ?_
              rintro e w' ⟨rfl, rfl⟩
              go_wp2_with fail
              refine (guarded_is g n false c5 _).mono ?_
              rintro e w' ⟨rfl, rfl⟩
              go_wp2_with fail
              go_meet
              exact ⟨rfl, rfl⟩
            · obtain rfl : v = true := by rw [hb]; simp [c1, c2, c3, c4, c5]
              clear hb
              go_wp2_with fail
              refine (rcheck_is r true c3 _).mono ?_
              rintro e w' ⟨rfl, rfl⟩
              go_wp2_with fail
              refine (guarded_is g n true c5 _).mono ?_
              rintro e w' ⟨rfl, rfl⟩
              go_wp2_with fail
              go_meet
              exact ⟨rfl, rfl⟩
          · obtain rfl : v = false := by rw [hb]; simp [c4]
            clear hb
            go_wp2_with fail
            refine (rcheck_is r true c3 _).mono ?_
            rintro e w' ⟨rfl, rfl⟩
            go_wp2_with fail
            go_meet
            exact ⟨rfl, rfl⟩
      · obtain rfl : v = false := by rw [hb]; simp [c2]
        clear hb
        go_wp2_with fail
        go_meet
        exact ⟨rfl, rfl⟩
    · obtain rfl : v = false := by rw [hb]; simp [c1]
      clear hb
      go_wp2_with fail
      go_meet
      exact ⟨rfl, rfl⟩
  case rest =>
    obtain ⟨rfl, rfl⟩ := hcut
    clear hv
    by_cases c0 : k = 0
    · subst c0
      have hu' : Hid ((if v && (o == 0 && r == 0 && b == 0 && n == 0) then 0 else 10) = u) := hu
      clear hu
      cases v
      all_goals
        go_wp2_with fail
        all_goals
          refine (righted_is 0 false rfl _).mono ?_
          rintro e w' ⟨rfl, rfl⟩
          go_wp2_with fail
          all_goals
            refine (badged_is 0 false rfl _).mono ?_
            rintro e w' ⟨rfl, rfl⟩
            go_wp2
            all_goals
              go_ret
              exact ⟨ret_int (by rw [← hu'.out]; first | (simp [*]; done) | (rename_i hx; simp at hx; simp [*])), G0⟩
    by_cases c10 : k = 10
    · subst c10
      have hu' : Hid ((if v && (o == 0 && r == 0 && b == 0 && n == 0) then 0 else 10) = u) := hu
      clear hu
      cases v
      all_goals
        go_wp2_with fail
        all_goals
          refine (righted_is 10 false rfl _).mono ?_
          rintro e w' ⟨rfl, rfl⟩
          go_wp2_with fail
          all_goals
            refine (badged_is 10 false rfl _).mono ?_
            rintro e w' ⟨rfl, rfl⟩
            go_wp2
            all_goals
              go_ret
              exact ⟨ret_int (by rw [← hu'.out]; first | (simp [*]; done) | (rename_i hx; simp at hx; simp [*])), G0⟩
    by_cases c2 : k = 2
    · subst c2
      have hu' : Hid ((if v && (r == 0 && b == 0) then 0 else 10) = u) := hideIt (by rw [← M.fit_node o r b g n]; exact hu.out)
      clear hu
      cases v
      all_goals
        go_wp2_with fail
        all_goals
          refine (righted_is 2 false rfl _).mono ?_
          rintro e w' ⟨rfl, rfl⟩
          go_wp2_with fail
          all_goals
            refine (badged_is 2 false rfl _).mono ?_
            rintro e w' ⟨rfl, rfl⟩
            go_wp2
            all_goals
              go_ret
              exact ⟨ret_int (by rw [← hu'.out]; first | (simp [*]; done) | (rename_i hx; simp at hx; simp [*])), G0⟩
    by_cases c4 : k = 4
    · subst c4
      have hu' : Hid ((if v && (n == 0) then 0 else 10) = u) := hu
      clear hu
      cases v
      all_goals
        go_wp2_with fail
        all_goals
          refine (righted_is 4 true rfl _).mono ?_
          rintro e w' ⟨rfl, rfl⟩
          go_wp2_with fail
          all_goals
            refine (badged_is 4 true rfl _).mono ?_
            rintro e w' ⟨rfl, rfl⟩
            go_wp2
            all_goals
              go_ret
              exact ⟨ret_int (by rw [← hu'.out]; first | (simp [*]; done) | (rename_i hx; simp at hx; simp [*])), G0⟩
    by_cases c5 : k = 5
    · subst c5
      have hu' : Hid ((if v && (n == 0) then 0 else 10) = u) := hu
      clear hu
      cases v
      all_goals
        go_wp2_with fail
        all_goals
          refine (righted_is 5 true rfl _).mono ?_
          rintro e w' ⟨rfl, rfl⟩
          go_wp2_with fail
          all_goals
            refine (badged_is 5 true rfl _).mono ?_
            rintro e w' ⟨rfl, rfl⟩
            go_wp2
            all_goals
              go_ret
              exact ⟨ret_int (by rw [← hu'.out]; first | (simp [*]; done) | (rename_i hx; simp at hx; simp [*])), G0⟩
    by_cases c6 : k = 6
    · subst c6
      have hu' : Hid ((if v && (b == 0 && n == 0) then 0 else 10) = u) := hu
      clear hu
      cases v
      all_goals
        go_wp2_with fail
        all_goals
          refine (righted_is 6 true rfl _).mono ?_
          rintro e w' ⟨rfl, rfl⟩
          go_wp2_with fail
          all_goals
            refine (badged_is 6 false rfl _).mono ?_
            rintro e w' ⟨rfl, rfl⟩
            go_wp2
            all_goals
              go_ret
              exact ⟨ret_int (by rw [← hu'.out]; first | (simp [*]; done) | (rename_i hx; simp at hx; simp [*])), G0⟩
    have h1 : M.rgd k = false := by simp [M.rgd, c4, c5, c6]
    have h2 : M.bgd k = false := by simp [M.bgd, c4, c5]
    have d0 : (k == 0) = false := by simpa using c0
    have d10 : (k == 10) = false := by simpa using c10
    have hf := M.fit_other k o r b g n h1 h2 d0 d10 (by simpa using c2)
    have d2 : (k != 2) = true := by simpa using c2
    have hu' : Hid ((if v && (r == 0 && b == 0 && n == 0) then 0 else 10) = u) := hideIt (by rw [← hf]; exact hu.out)
    clear hu
    clear hf c0 c10 c2 c4 c5 c6
    cases v
    all_goals
      go_wp2_with fail
      all_goals
        refine (righted_is k false h1 _).mono ?_
        rintro e w' ⟨rfl, rfl⟩
        go_wp2_with fail
        all_goals
          refine (badged_is k false h2 _).mono ?_
          rintro e w' ⟨rfl, rfl⟩
          go_wp2
          all_goals
            go_ret
            exact ⟨ret_int (by rw [← hu'.out]; first | (simp [*]; done) | (rename_i hx; simp at hx; simp [*])), G0⟩

set_option maxHeartbeats 400000 in
theorem rcheck_kind (k o r b g n : Int) (h : M.knd k = false) (w : World) :
    Calls Tryz.prog 110 #[cv ⟨k, o, r, b, g, n⟩] w fun e w' => e = .returned (.int .i64 2) ∧ w.grownBy w' none := by
  by_cases c1 : k < 0
  · clear h
    go_enter Tryz.func110, Tryz.ntmps110
    go_wp2
    go_ret
    exact ⟨rfl, gbAlloc _ _ _⟩
  · have c2 : 11 < k := by
      simp only [M.knd, Bool.and_eq_false_iff, decide_eq_false_iff_not] at h
      omega
    clear h
    go_enter Tryz.func110, Tryz.ntmps110
    go_wp2
    go_ret
    exact ⟨rfl, gbAlloc _ _ _⟩

theorem rchk_is (k o r b g n v : Int) (hv : M.chk ⟨k, o, r, b, g, n⟩ = v) (w : World) :
    Calls Tryz.prog 110 #[cv ⟨k, o, r, b, g, n⟩] w fun e w' => e = .returned (.int .i64 v) ∧ w.grownBy w' none := by
  cases h : M.knd k
  · rw [← hv, M.chk_kind h]; exact rcheck_kind k o r b g n h w
  · obtain ⟨k0, k11⟩ : 0 ≤ k ∧ k ≤ 11 := by simpa [M.knd] using h
    refine rcheck_in k o r b g n v _ k0 k11 rfl ?_ w
    show _ = _
    rw [← hv]
    unfold M.chk
    rw [h]
    rfl
end Go.Proofs.YtdnoidnpiaadaaaGreat
