/-
  THE CONTRACT of the document's Cover (donjonref03).
-/
import Derived.Test.YthjbihbaccnmcaaCov
namespace Go.Proofs.Ythjbihbaccnmcaa
open Go.RowKit

theorem rcover_no (A T : Int) (w : World) (h : ¬ (0 ≤ A ∧ A ≤ T ∧ T ≤ 65536)) :
    Calls Try.prog 20 #[.int .i64 A, .int .i64 T] w fun e w' => e = .returned (.tuple #[.slice none 0 0, .int .i64 1]) ∧ w' = w := by
  by_cases c1 : A < 0
  · clear h
    go_enter Try.func20, Try.ntmps20
    go_wp2
    go_ret2
    exact ⟨rfl, rfl⟩
  · by_cases c2 : T < A
    · clear h
      go_enter Try.func20, Try.ntmps20
      go_wp2
      go_ret2
      exact ⟨rfl, rfl⟩
    · have c3 : 65536 < T := by omega
      clear h
      go_enter Try.func20, Try.ntmps20
      go_wp2
      go_ret2
      exact ⟨rfl, rfl⟩

set_option maxHeartbeats 1000000 in
theorem rcover_yes (a t : Nat) (w : World) (h : a ≤ t) (ht : t ≤ 65536) :
    Calls Try.prog 20 #[.int .i64 a, .int .i64 t] w fun e w' => ∃ v, e = .returned (.tuple #[v, .int .i64 0]) ∧ Lst w' w.heap.size v (M.cover t a) ∧ w.grownBy w' none := by
  have HC : Hid ((M.cover t a).length ≤ 65536) := hideIt (M.cover_len 65536 t a (by omega))
  have d1 : decide ((a : Int) < 0) = false := by simp
  have d2 : decide (t < a) = false := by simpa using h
  have d3 : decide ((65536 : Int) < (t : Int)) = false := by simp; omega
  go_enter Try.func20, Try.ntmps20
  go_wp2
  go_loopg [0, 6] (t - a) (fun g s0 v wr => ∃ (c : Nat) (L : List (Int × Int)), c + g = t ∧ s0 = .int .i64 c ∧ Hid (L ++ M.cover t c = M.cover t a) ∧ Hid (Lst wr w.heap.size v L) ∧ w.grownBy wr none)
  case atStart => exact ⟨a, [], by omega, rfl, hideIt rfl, hideIt (Lst.nil _ _), gbRefl _ _⟩
  case round =>
    obtain ⟨c, L, hcg, rfl, HL, HO, gw⟩ := hrel
    by_cases hlt : c < t
    · obtain ⟨wo, rfl⟩ : ∃ wo, wo = wr := ⟨_, rfl⟩
      obtain ⟨G, rfl⟩ : ∃ G, G = gk := ⟨_, rfl⟩
      go_wp2
      go_loopg [7] 17 (fun g s7 wx => ∃ d : Nat, d + 1 = g ∧ d ≤ 16 ∧ s7 = .int .i64 d ∧ Hid (M.lngF c t d = M.lng c t) ∧ wx = wo)
      case atStart => exact ⟨16, rfl, by omega, rfl, hideIt rfl, rfl⟩
      case round =>
        obtain ⟨d, hg, hd, rfl, HD, rfl⟩ := hrel
        obtain ⟨m, hm⟩ : ∃ m, 2 ^ d = m := ⟨_, rfl⟩
        have hp := M.pow_le16 d hd
        have h2 := M.shl_val d m hd hm
        rw [hm] at hp
        have hd0 : (0 : Int) ≤ (d : Int) := by omega
        by_cases hok : M.ok c t d = true
        · obtain ⟨k1, k2⟩ := M.ok_iff.1 hok
          rw [hm] at k1 k2
          have hb : M.lng c t = d := by rw [← HD.out]; exact M.lngF_here hok
          have k1' : (c : Int) % (m : Int) = 0 := by exact_mod_cast k1
          have k2' : (c : Int) + (m : Int) ≤ (t : Int) := by omega
          have HS : Hid (M.cover t c = ((c : Int), (d : Int)) :: M.cover t (c + m)) := hideIt (by rw [M.cover_lt hlt, hb, hm])
          have HLn : Hid (L.length + 1 ≤ 1000000) := hideIt (by
            have h1 := HL.out
            rw [← h1] at HC
            have := HC.out
            rw [List.length_append] at this; omega)
          have HO1 : Hid (Lst (wr.alloc (.cells #[.int .i64 c, .int .i64 d] 23)) w.heap.size u6 L) := hideIt (HO.out.kept (gbAlloc _ _ _))
          have HR1 : Hid (Row (wr.alloc (.cells #[.int .i64 c, .int .i64 d] 23)) ⟨wr.heap.size, 0, none⟩ [((c : Int), (d : Int))]) := hideIt (rowOne (Box.made wr c d))
          have hown := HO.out.lt
          have hsz := gw.size
          clear hm k1 hok hb
          go_wp2_with (at_builtin; refine wpList_append_span rfl (.tmp 37) (.tmp 41) rfl w.heap.size _ L rfl HO1.out ⟨wr.heap.size, 0, none⟩ 1 1 [((c : Int), (d : Int))] rfl rfl HR1.out HLn.out (by simp; omega) ?_; intro v2 w2 ho2 hg2; have ho2 : Hid (Lst w2 w.heap.size v2 (L ++ [((c : Int), (d : Int))])) := ho2)
          go_roundg (t - (c + m))
          case rel => exact ⟨c + m, L ++ [((c : Int), (d : Int))], by omega, by go_num, hideIt (by rw [← HL.out, HS.out]; simp), ho2, gbNews (gbTrans (gbAny (gbTrans gw (gbAlloc _ _ none)) _) hg2) (fun k e => (hown k e).1)⟩
          case measure => omega
        · have hok' : M.ok c t d = false := by simpa using hok
          have hd1 : 1 ≤ d := Classical.byContradiction fun e => by
            obtain rfl : d = 0 := by omega
            exact hok (M.ok0 hlt)
          obtain ⟨d', hd'⟩ : ∃ d', d' + 1 = d := ⟨d - 1, by omega⟩
          have HD2 : Hid (M.lngF c t d' = M.lng c t) := hideIt (by
            have := HD.out
            rw [← hd', M.lngF_step (by rw [hd']; exact hok')] at this
            exact this)
          have hd'' : (d : Int) - 1 = (d' : Int) := by omega
          by_cases k1 : c % m = 0
          · have k1' : (c : Int) % (m : Int) = 0 := by exact_mod_cast k1
            have k2' : (t : Int) < (c : Int) + (m : Int) := by
              have : ¬ (c + m ≤ t) := fun e => hok (M.ok_iff.2 (by rw [hm]; exact ⟨k1, e⟩))
              omega
            clear hm hok hok' k1
            go_wp2
            go_roundg (gk - 1)
            case rel => exact ⟨d', by omega, by omega, rfl, HD2, rfl⟩
            case measure => omega
          · obtain ⟨r, hr⟩ : ∃ r : Nat, (c : Int) % (m : Int) = (r : Int) := ⟨c % m, by simp⟩
            have k1' : ¬ (r : Int) = 0 := fun e => k1 (by rw [e] at hr; exact_mod_cast hr)
            clear hm hok hok' k1
            go_wp2
            go_roundg (gk - 1)
            case rel => exact ⟨d', by omega, by omega, rfl, HD2, rfl⟩
            case measure => omega
    · have HE : Hid (L = M.cover t a) := hideIt (by have := HL.out; rw [M.cover_end hlt, List.append_nil] at this; exact this)
      go_wp2
      go_ret2
      exact ⟨_, rfl, by rw [← HE.out]; exact HO.out, gw⟩

end Go.Proofs.Ythjbihbaccnmcaa
