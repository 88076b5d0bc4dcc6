/-
  THE CONTRACTS of package span's longest and Cover.
-/
import Derived.Test.YthjbihbaccnmcabLists
import Derived.Test.YthjbihbaccnmcabLong
import Derived.Deep.LoopGhost
namespace Go.Proofs.Ythjbihbaccnmcab
open Go.RowKit

set_option maxHeartbeats 1000000 in
theorem longest_any (a t : Nat) (w : World) (h : a < t) (ht : t ≤ 65536) :
    Calls Try.prog 16 #[.int .i64 a, .int .i64 t] w fun e w' => e = .returned (sp a (M.lng a t : Nat)) ∧ w.grownBy w' none := by
  have BB := boxTwo w 0 0 a 0
  obtain ⟨k4, hk4⟩ : ∃ k4, w.heap.size = k4 := ⟨_, rfl⟩
  have H0 : Hid (M.ok a t 0 = true) := hideIt (M.ok0 h)
  go_enter Try.func16, Try.ntmps16
  go_wp2
  go_loopg [6] 17 (fun g _ wr => ∃ c : Nat, c + g = 17 ∧ Hid (M.ok a t c = true) ∧ c ≤ 16 ∧ Box wr (k4 + 1) a c ∧ Box wr k4 0 0 ∧ w.grownBy wr none)
  case atStart => exact ⟨0, rfl, H0, by omega, by rw [← hk4]; exact BB.2, by rw [← hk4]; exact BB.1, gbTwo _ _ _ _⟩
  case round =>
    obtain ⟨c, hc, HO, hc16, X5, X4, gw⟩ := hrel
    clear BB H0
    have hlt := X5.lt
    obtain ⟨d, hd⟩ : ∃ d, c + 1 = d := ⟨_, rfl⟩
    have hd' : (c : Int) + 1 = (d : Int) := by omega
    have x0 := X5.at0
    have x1 := X5.at1
    have y0 := X4.at0
    have y1 := X4.at1
    have y2 := X4.fr
    have y3 := X4.fr1
    have hle : w.heap.size ≤ k4 := by omega
    clear hk4
    cases hv : M.rgt (a : Int) (d : Int)
    · have HR := fun w => right_is a d false hv w
      have HL : Hid (M.lng a t = c) := hideIt (M.lng_of hc16 HO.out (by
        by_cases e : c = 16
        · exact .inl e
        · right
          rw [hd]
          cases e2 : M.ok a t d
          · rfl
          · rw [M.longer_right ht e2 (by omega)] at hv; cases hv))
      clear hv
      go_wp2_with fail
      refine (HR _).mono ?_
      rintro e w1 ⟨rfl, g1⟩
      have G1 := gbTrans (gbAlloc wr _ none) g1
      have Z5 := X5.kept G1
      have Z4 := X4.kept G1
      clear x0 x1 y0 y1 y2 y3
      have z0 := Z5.at0
      have z1 := Z5.at1
      have z2 := Z4.at0
      have z3 := Z4.at1
      have z4 := Z4.fr
      have z5 := Z4.fr1
      go_wp2
      exact bodyPost_ret (v := sp a c) (by simp [results, Try.results16, go_sem, z2, z3]) rfl ⟨by rw [HL.out], by repeat (first | exact gbTrans gw G1 | refine gbSetNew ?_ _ _ _ (by omega))⟩
    · have HR := fun w => right_is a d true hv w
      obtain ⟨a', d', m, ea, ed, hd16, hm, _, m1, m2, m3, _⟩ := M.rgt_nat hv
      obtain rfl : a = a' := by omega
      obtain rfl : d = d' := by omega
      have HE := fun w => end_any a d m w hd16 hm (by omega) (by omega)
      by_cases hend : a + m ≤ t
      · have HO' : Hid (M.ok a t d = true) := hideIt (M.longer_ok hv hm hend).1
        clear hv hm ea ed
        go_wp2_with fail
        obtain ⟨W1, hW1, V6, gV⟩ := boxNew wr a d
        rw [hW1]
        refine (HR _).mono ?_
        rintro e w1 ⟨rfl, g1⟩
        have G1 := gbTrans gV g1
        have Z6 := V6.kept g1
        have z0 := Z6.at0
        have z1 := Z6.at1
        clear x0 x1 y0 y1 y2 y3 hW1
        go_wp2_with fail
        refine (HE _).mono ?_
        rintro e w2 ⟨rfl, g2⟩
        have G2 := gbTrans G1 g2
        have V6' := Z6.kept g2
        have V5 := X5.kept G2
        have V4 := X4.kept G2
        have v0 := V6'.at0
        have v1 := V6'.at1
        have v2 := V5.at0
        have v3 := V5.at1
        have v4 := V5.fr
        have v5 := V5.fr1
        clear z0 z1
        go_wp2
        go_roundg (gk - 1)
        case rel => exact ⟨d, by omega, HO', hd16, V5.set a d, V4.keep (gbTrans (gbSetCell _ _ _ _) (gbSetCell _ _ _ _)) (by simp), by repeat (first | exact gbTrans gw G2 | refine gbSetNew ?_ _ _ _ (by omega))⟩
        case measure => omega
      · have HL : Hid (M.lng a t = c) := hideIt (M.lng_of hc16 HO.out (by
          right
          rw [hd]
          cases e2 : M.ok a t d
          · rfl
          · have := (M.ok_iff.1 e2).2; omega))
        clear hv hm ea ed
        go_wp2_with fail
        obtain ⟨W1, hW1, V6, gV⟩ := boxNew wr a d
        rw [hW1]
        refine (HR _).mono ?_
        rintro e w1 ⟨rfl, g1⟩
        have Y6 := V6.kept g1
        have z0 := Y6.at0
        have z1 := Y6.at1
        clear x0 x1 y0 y1 y2 y3 hW1
        go_wp2_with fail
        refine (HE _).mono ?_
        rintro e w2 ⟨rfl, g2⟩
        clear z0 z1
        have G1 := gbTrans (gbTrans gV g1) g2
        have Z5 := X5.kept G1
        have Z4 := X4.kept G1
        have z0 := Z5.at0
        have z1 := Z5.at1
        have z2 := Z4.at0
        have z3 := Z4.at1
        have z4 := Z4.fr
        have z5 := Z4.fr1
        go_wp2
        exact bodyPost_ret (v := sp a c) (by simp [results, Try.results16, go_sem, z2, z3]) rfl ⟨by rw [HL.out], by repeat (first | exact gbTrans gw G1 | refine gbSetNew ?_ _ _ _ (by omega))⟩

theorem rowOne {w : World} {k : Nat} {A B : Int} (h : Box w k A B) : Row w ⟨k, 0, none⟩ [(A, B)] := by
  intro i p hp
  cases i with
  | zero => simp at hp; subst hp; exact ⟨h.at0, h.at1⟩
  | succ i => simp at hp

theorem longest_is (a t b : Nat) (w : World) (h : a < t) (ht : t ≤ 65536) (hb : M.lng a t = b) :
    Calls Try.prog 16 #[.int .i64 a, .int .i64 t] w fun e w' => e = .returned (sp a b) ∧ w.grownBy w' none := by
  subst hb; exact longest_any a t w h ht

theorem cover_no (A T : Int) (w : World) (h : ¬ (0 ≤ A ∧ A ≤ T ∧ T ≤ 65536)) :
    Calls Try.prog 8 #[.int .i64 A, .int .i64 T] w fun e w' => e = .returned (.tuple #[.slice none 0 0, .int .i64 1]) ∧ w' = w := by
  by_cases c1 : A < 0
  · clear h
    go_enter Try.func8, Try.ntmps8
    go_wp2
    go_ret2
    exact ⟨rfl, rfl⟩
  · by_cases c2 : T < A
    · clear h
      go_enter Try.func8, Try.ntmps8
      go_wp2
      go_ret2
      exact ⟨rfl, rfl⟩
    · have c3 : 65536 < T := by omega
      clear h
      go_enter Try.func8, Try.ntmps8
      go_wp2
      go_ret2
      exact ⟨rfl, rfl⟩

set_option maxHeartbeats 1000000 in
theorem cover_yes (a t : Nat) (w : World) (h : a ≤ t) (ht : t ≤ 65536) :
    Calls Try.prog 8 #[.int .i64 a, .int .i64 t] w fun e w' => ∃ v, e = .returned (.tuple #[v, .int .i64 0]) ∧ Lst w' w.heap.size v (M.cover t a) ∧ w.grownBy w' none := by
  have HC : Hid ((M.cover t a).length ≤ 65536) := hideIt (M.cover_len 65536 t a (by omega))
  have d1 : decide ((a : Int) < 0) = false := by simp
  have d2 : decide (t < a) = false := by simpa using h
  have d3 : decide ((65536 : Int) < (t : Int)) = false := by simp; omega
  go_enter Try.func8, Try.ntmps8
  go_wp2
  go_loopg [6, 7] (t - a) (fun g v s7 wr => ∃ (c : Nat) (L : List (Int × Int)), c + g = t ∧ s7 = .int .i64 c ∧ Hid (L ++ M.cover t c = M.cover t a) ∧ Hid (Lst wr w.heap.size v L) ∧ w.grownBy wr none)
  case atStart => exact ⟨a, [], by omega, rfl, hideIt rfl, hideIt (Lst.nil _ _), gbRefl _ _⟩
  case round =>
    obtain ⟨c, L, hcg, rfl, HL, HO, gw⟩ := hrel
    by_cases hlt : c < t
    · obtain ⟨b, hb⟩ : ∃ b, M.lng c t = b := ⟨_, rfl⟩
      obtain ⟨m, hm⟩ : ∃ m, 2 ^ b = m := ⟨_, rfl⟩
      have HN := fun w => longest_is c t b w hlt ht hb
      have hok := M.lng_ok hlt
      rw [hb, M.ok_iff, hm] at hok
      obtain ⟨⟨_, hct⟩, hb16⟩ := hok
      have hm1 := (M.pow_le16 b hb16).1
      rw [hm] at hm1
      have HE := fun w => end_any c b m w hb16 hm (by omega) (by omega)
      have HS : Hid (M.cover t c = ((c : Int), (b : Int)) :: M.cover t (c + m)) := hideIt (by rw [M.cover_lt hlt, hb, hm])
      have HLn : Hid (L.length + 1 ≤ 1000000) := hideIt (by
        have h1 := HL.out
        rw [← h1] at HC
        have := HC.out
        rw [List.length_append] at this; omega)
      obtain ⟨n, hn⟩ : ∃ n : Nat, c + m = n := ⟨_, rfl⟩
      have hn' : (c : Int) + (m : Int) = (n : Int) := by omega
      rw [hn] at HS
      clear hb hm
      go_wp2_with fail
      refine (HN _).mono ?_
      rintro e w1 ⟨rfl, g1⟩
      obtain ⟨BB1, BB2⟩ := boxTwo w1 c b c b
      have HO1 : Hid (Lst ((w1.alloc (.cells #[.int .i64 c, .int .i64 b] 23)).alloc (.cells #[.int .i64 c, .int .i64 b] 23)) w.heap.size u6 L) := hideIt ((HO.out.kept g1).kept (gbTwo _ _ _ _))
      have HR1 : Hid (Row ((w1.alloc (.cells #[.int .i64 c, .int .i64 b] 23)).alloc (.cells #[.int .i64 c, .int .i64 b] 23)) ⟨w1.heap.size + 1, 0, none⟩ [((c : Int), (b : Int))]) := hideIt (rowOne BB2)
      have hsz : w.heap.size ≤ w1.heap.size := Nat.le_trans gw.size g1.size
      have hown := HO.out.lt
      have hsz1 := g1.size
      have hne : some w1.heap.size ≠ u6.ownBlock := fun e => by have := (hown _ e.symm).2; omega
      clear HN
      go_wp2_with (at_builtin; refine wpList_append_span rfl (.tmp 27) (.tmp 29) rfl w.heap.size _ L rfl HO1.out ⟨w1.heap.size + 1, 0, none⟩ 1 1 [((c : Int), (b : Int))] rfl rfl HR1.out HLn.out (by simp; omega) ?_; intro v2 w2 ho2 hg2; have hx8 := BB1.keep hg2 hne; have hx80 := hx8.at0; have hx81 := hx8.at1; have ho2 : Hid (Lst w2 w.heap.size v2 (L ++ [((c : Int), (b : Int))])) := ho2)
      refine (HE _).mono ?_
      rintro e w3 ⟨rfl, g3⟩
      go_wp2
      go_roundg (t - n)
      case rel => exact ⟨n, L ++ [((c : Int), (b : Int))], by omega, rfl, hideIt (by rw [← HL.out, HS.out]; simp), hideIt (ho2.out.kept g3), gbTrans (gbNews (gbTrans (gbAny (gbTrans gw (gbTrans g1 (gbTwo _ _ _ none))) _) hg2) (fun k e => (hown k e).1)) g3⟩
      case measure => omega
    · have HE : Hid (L = M.cover t a) := hideIt (by have := HL.out; rw [M.cover_end hlt, List.append_nil] at this; exact this)
      go_wp2
      go_ret2
      exact ⟨_, rfl, by rw [← HE.out]; exact HO.out, gw⟩

end Go.Proofs.Ythjbihbaccnmcab
