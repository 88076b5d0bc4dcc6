/-
  THE DOCUMENT'S SIDE (donjonref05): Derive, Weaker.
-/
import Derived.Test.YtkpcdfiebjigbaaRchk
import Derived.Test.YtkpcdfiebjigbaaLess
namespace Go.Proofs.Ytkpcdfiebjigbaa
set_option maxRecDepth 10000
open Go.RowKit

set_option maxHeartbeats 2000000 in
theorem rweaker_in (k o r b g n k' o' r' b' g' n' e1 e2 : Int) (v1 v2 v3 v4 v5 v6 v7 : Bool) (h1 : (e1 == 0) = v1) (h2 : (e2 == 0) = v2) (h3 : (k == k') = v3) (h4 : (o == o') = v4) (h6 : (b' == 0) = v6) (h7 : (b == b') = v7)
    (HA : ∀ w, Calls Try.prog 43 #[cv ⟨k, o, r, b, g, n⟩] w fun e w' => e = .returned (.int .i64 e1) ∧ w.grownBy w' none)
    (HB : ∀ w, Calls Try.prog 43 #[cv ⟨k', o', r', b', g', n'⟩] w fun e w' => e = .returned (.int .i64 e2) ∧ w.grownBy w' none)
    (HW : ∀ w, Calls Try.prog 44 #[.int .i64 r, .int .i64 r'] w fun e w' => e = .returned (.bool v5) ∧ w' = w) (w : World) :
    Calls Try.prog 19 #[cv ⟨k, o, r, b, g, n⟩, cv ⟨k', o', r', b', g', n'⟩] w fun e w' => e = .returned (.bool (v1 && v2 && v3 && v4 && v5 && (v6 || v7))) ∧ w.grownBy w' none := by
  obtain ⟨X0, Y0, gW⟩ := boxes2 w ⟨k, o, r, b, g, n⟩ ⟨k', o', r', b', g', n'⟩ _ rfl
  cases v1
  · go_enter Try.func19, Try.ntmps19
    go_wp2_with fail
    refine (HA _).mono ?_
    rintro e w1 ⟨rfl, g1⟩
    obtain ⟨c0, c1, c2, c3, c4, c5, _, _⟩ := X0.kept g1
    obtain ⟨d0, d1, d2, d3, d4, d5, _, _⟩ := Y0.kept g1
    simp only at c0 c1 c2 c3 c4 c5 d0 d1 d2 d3 d4 d5
    go_wp2
    go_ret
    exact ⟨ret_bool (by simp), gbTrans gW g1⟩
  · cases v2
    · go_enter Try.func19, Try.ntmps19
      go_wp2_with fail
      refine (HA _).mono ?_
      rintro e w1 ⟨rfl, g1⟩
      obtain ⟨c0, c1, c2, c3, c4, c5, _, _⟩ := X0.kept g1
      obtain ⟨d0, d1, d2, d3, d4, d5, _, _⟩ := Y0.kept g1
      simp only at c0 c1 c2 c3 c4 c5 d0 d1 d2 d3 d4 d5
      go_wp2_with fail
      refine (HB _).mono ?_
      rintro e w2 ⟨rfl, g2⟩
      clear c0 c1 c2 c3 c4 c5 d0 d1 d2 d3 d4 d5
      obtain ⟨c0, c1, c2, c3, c4, c5, _, _⟩ := (X0.kept g1).kept g2
      obtain ⟨d0, d1, d2, d3, d4, d5, _, _⟩ := (Y0.kept g1).kept g2
      simp only at c0 c1 c2 c3 c4 c5 d0 d1 d2 d3 d4 d5
      go_wp2
      go_ret
      exact ⟨ret_bool (by simp), gbTrans gW (gbTrans g1 g2)⟩
    · cases v3
      · go_enter Try.func19, Try.ntmps19
        go_wp2_with fail
        refine (HA _).mono ?_
        rintro e w1 ⟨rfl, g1⟩
        obtain ⟨c0, c1, c2, c3, c4, c5, _, _⟩ := X0.kept g1
        obtain ⟨d0, d1, d2, d3, d4, d5, _, _⟩ := Y0.kept g1
        simp only at c0 c1 c2 c3 c4 c5 d0 d1 d2 d3 d4 d5
        go_wp2_with fail
        refine (HB _).mono ?_
        rintro e w2 ⟨rfl, g2⟩
        clear c0 c1 c2 c3 c4 c5 d0 d1 d2 d3 d4 d5
        obtain ⟨c0, c1, c2, c3, c4, c5, _, _⟩ := (X0.kept g1).kept g2
        obtain ⟨d0, d1, d2, d3, d4, d5, _, _⟩ := (Y0.kept g1).kept g2
        simp only at c0 c1 c2 c3 c4 c5 d0 d1 d2 d3 d4 d5
        go_wp2
        go_ret
        exact ⟨ret_bool (by simp), gbTrans gW (gbTrans g1 g2)⟩
      · cases v4
        · go_enter Try.func19, Try.ntmps19
          go_wp2_with fail
          refine (HA _).mono ?_
          rintro e w1 ⟨rfl, g1⟩
          obtain ⟨c0, c1, c2, c3, c4, c5, _, _⟩ := X0.kept g1
          obtain ⟨d0, d1, d2, d3, d4, d5, _, _⟩ := Y0.kept g1
          simp only at c0 c1 c2 c3 c4 c5 d0 d1 d2 d3 d4 d5
          go_wp2_with fail
          refine (HB _).mono ?_
          rintro e w2 ⟨rfl, g2⟩
          clear c0 c1 c2 c3 c4 c5 d0 d1 d2 d3 d4 d5
          obtain ⟨c0, c1, c2, c3, c4, c5, _, _⟩ := (X0.kept g1).kept g2
          obtain ⟨d0, d1, d2, d3, d4, d5, _, _⟩ := (Y0.kept g1).kept g2
          simp only at c0 c1 c2 c3 c4 c5 d0 d1 d2 d3 d4 d5
          go_wp2
          go_ret
          exact ⟨ret_bool (by simp), gbTrans gW (gbTrans g1 g2)⟩
        · cases v5
          · go_enter Try.func19, Try.ntmps19
            go_wp2_with fail
            refine (HA _).mono ?_
            rintro e w1 ⟨rfl, g1⟩
            obtain ⟨c0, c1, c2, c3, c4, c5, _, _⟩ := X0.kept g1
            obtain ⟨d0, d1, d2, d3, d4, d5, _, _⟩ := Y0.kept g1
            simp only at c0 c1 c2 c3 c4 c5 d0 d1 d2 d3 d4 d5
            go_wp2_with fail
            refine (HB _).mono ?_
            rintro e w2 ⟨rfl, g2⟩
            clear c0 c1 c2 c3 c4 c5 d0 d1 d2 d3 d4 d5
            obtain ⟨c0, c1, c2, c3, c4, c5, _, _⟩ := (X0.kept g1).kept g2
            obtain ⟨d0, d1, d2, d3, d4, d5, _, _⟩ := (Y0.kept g1).kept g2
            simp only at c0 c1 c2 c3 c4 c5 d0 d1 d2 d3 d4 d5
            go_wp2_with fail
            refine (HW _).mono ?_
            rintro e w' ⟨rfl, rfl⟩
            go_wp2
            go_ret
            exact ⟨ret_bool (by simp), gbTrans gW (gbTrans g1 g2)⟩
          · cases v6
            all_goals
              go_enter Try.func19, Try.ntmps19
              go_wp2_with fail
              refine (HA _).mono ?_
              rintro e w1 ⟨rfl, g1⟩
              obtain ⟨c0, c1, c2, c3, c4, c5, _, _⟩ := X0.kept g1
              obtain ⟨d0, d1, d2, d3, d4, d5, _, _⟩ := Y0.kept g1
              simp only at c0 c1 c2 c3 c4 c5 d0 d1 d2 d3 d4 d5
              go_wp2_with fail
              refine (HB _).mono ?_
              rintro e w2 ⟨rfl, g2⟩
              clear c0 c1 c2 c3 c4 c5 d0 d1 d2 d3 d4 d5
              obtain ⟨c0, c1, c2, c3, c4, c5, _, _⟩ := (X0.kept g1).kept g2
              obtain ⟨d0, d1, d2, d3, d4, d5, _, _⟩ := (Y0.kept g1).kept g2
              simp only at c0 c1 c2 c3 c4 c5 d0 d1 d2 d3 d4 d5
              go_wp2_with fail
              refine (HW _).mono ?_
              rintro e w' ⟨rfl, rfl⟩
              go_wp2
              go_ret
              exact ⟨ret_bool (by simp), gbTrans gW (gbTrans g1 g2)⟩

end Go.Proofs.Ytkpcdfiebjigbaa
