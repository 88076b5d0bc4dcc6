/-
  THE CONTRACTS of the document's own memory (package donjonref02), one a function and a way.
-/
import Derived.Test.YtllglnomokebcaaWorks
namespace Go.Proofs.Ytllglnomokebcaa
open Go.RowKit

set_option maxHeartbeats 400000 in
theorem rnew_yes (w : World) (n : Nat) (h0 : 64 ≤ n) (h1 : n ≤ 65536) :
    Calls Try.prog 9 #[.int .i64 n] w fun e w' => ∃ p b, e = .returned (.tuple #[.pointer (some ⟨p, 0, none⟩), .int .i64 0]) ∧ RefAt w' p b n (fun _ => 0) ∧ w.grownBy w' none ∧ w.heap.size ≤ p ∧ w.heap.size ≤ b := by
  have hmk := run_make_row' (P := Try.prog) 36 30 (.int .u64 0) 8 Try.underlying36 Try.info30 rfl .i64 .i64 n (by omega) (by omega)
  go_enter Try.func9, Try.ntmps9
  go_wp2
  go_ret2
  refine ⟨w.heap.size + 1, w.heap.size, rfl, ⟨?_, ?_, by omega, h0, h1⟩, ?_, by omega, by omega⟩
  · have e := Deep.blk_alloc_new (w.alloc (.cells (madeCells #[Value.int .u64 0] n) 30)) (.cells #[.slice (some ⟨w.heap.size, 0, none⟩) n n] 44)
    rw [Deep.nblk_alloc] at e; exact e
  · exact (w.rowIs_made (.int .u64 0) n 30).alloc _
  · exact gbTrans (World.grownBy_alloc _ _ _) (World.grownBy_alloc _ _ _)

set_option maxHeartbeats 400000 in
theorem rnew_no (w : World) (n : Int) (h : ¬ (64 ≤ n ∧ n ≤ 65536)) :
    Calls Try.prog 9 #[.int .i64 n] w fun e w' => e = .returned (.tuple #[.pointer none, .int .i64 1]) ∧ w' = w := by
  by_cases c1 : n < 64
  · clear h
    go_enter Try.func9, Try.ntmps9
    go_wp2
    go_ret2
    exact ⟨rfl, rfl⟩
  · have c2 : 65536 < n := by omega
    clear h
    go_enter Try.func9, Try.ntmps9
    go_wp2
    go_ret2
    exact ⟨rfl, rfl⟩

set_option maxHeartbeats 400000 in
theorem rthere_yes (w : World) (p b n a k : Nat) (hc : w.cell? ⟨p, 0, none⟩ = some (.slice (some ⟨b, 0, none⟩) n n)) (hn : n ≤ 65536) (h : a + k ≤ n) :
    Calls Try.prog 25 #[.pointer (some ⟨p, 0, none⟩), .int .i64 a, .int .i64 k] w fun e w' => e = .returned (.bool true) ∧ w' = w := by
  have h2 : (k : Int) ≤ (n : Int) - (a : Int) := by omega
  have h3 : (a : Int) ≤ (n : Int) := by omega
  go_enter Try.func25, Try.ntmps25
  go_wp2
  go_ret
  exact ⟨rfl, rfl⟩

set_option maxHeartbeats 400000 in
theorem rthere_no (w : World) (p b n : Nat) (a k : Int) (hc : w.cell? ⟨p, 0, none⟩ = some (.slice (some ⟨b, 0, none⟩) n n)) (hn : n ≤ 65536) (h : ¬ (0 ≤ a ∧ 0 ≤ k ∧ a + k ≤ n)) :
    Calls Try.prog 25 #[.pointer (some ⟨p, 0, none⟩), .int .i64 a, .int .i64 k] w fun e w' => e = .returned (.bool false) ∧ w' = w := by
  by_cases c1 : 0 ≤ a
  · by_cases c2 : 0 ≤ k
    · by_cases c3 : a ≤ (n : Int)
      · have c4 : ¬ k ≤ (n : Int) - a := by omega
        clear h
        go_enter Try.func25, Try.ntmps25
        go_wp2
        go_ret
        exact ⟨rfl, rfl⟩
      · clear h
        go_enter Try.func25, Try.ntmps25
        go_wp2
        go_ret
        exact ⟨rfl, rfl⟩
    · clear h
      go_enter Try.func25, Try.ntmps25
      go_wp2
      go_ret
      exact ⟨rfl, rfl⟩
  · clear h
    go_enter Try.func25, Try.ntmps25
    go_wp2
    go_ret
    exact ⟨rfl, rfl⟩

set_option maxHeartbeats 400000 in
theorem rget_yes (w : World) (p b n a : Nat) (f : Nat → Int) (hm : RefAt w p b n f) (ha : a < n) :
    Calls Try.prog 20 #[.pointer (some ⟨p, 0, none⟩), .int .i64 a] w fun e w' => e = .returned (.tuple #[.int .u64 (f a), .int .i64 0]) ∧ ∃ q, w' = w.drewN q := by
  have hc := hm.cell
  have hr := hm.row.cell ha
  have hn := hm.hi
  go_enter Try.func20, Try.ntmps20
  go_wp2
  go_ret2
  exact ⟨rfl, 0, rfl⟩

set_option maxHeartbeats 400000 in
theorem rget_no (w : World) (p b n : Nat) (a : Int) (f : Nat → Int) (hm : RefAt w p b n f) (ha : ¬ (0 ≤ a ∧ a < n)) :
    Calls Try.prog 20 #[.pointer (some ⟨p, 0, none⟩), .int .i64 a] w fun e w' => e = .returned (.tuple #[.int .u64 0, .int .i64 1]) ∧ w' = w := by
  have hc := hm.cell
  have hn := hm.hi
  by_cases c1 : a < 0
  · clear ha
    go_enter Try.func20, Try.ntmps20
    go_wp2
    go_ret2
    exact ⟨rfl, rfl⟩
  · have c2 : (n : Int) ≤ a := by omega
    clear ha
    go_enter Try.func20, Try.ntmps20
    go_wp2
    go_ret2
    exact ⟨rfl, rfl⟩

set_option maxHeartbeats 400000 in
theorem rput_yes (w : World) (p b n a : Nat) (v : Int) (f : Nat → Int) (hm : RefAt w p b n f) (ha : a < n) :
    Calls Try.prog 11 #[.pointer (some ⟨p, 0, none⟩), .int .i64 a, .int .u64 v] w fun e w' => e = .returned (.int .i64 0) ∧ RefAt w' p b n (fun i => if i = a then v else f i) ∧ w.grownBy w' (some b) := by
  have hc := hm.cell
  have hr := hm.row.cell ha
  have hf := hm.row.frozen a
  have hn := hm.hi
  go_enter Try.func11, Try.ntmps11
  go_wp2
  go_ret
  exact ⟨rfl, hm.put a v, gbSetCell _ _ _ _⟩

set_option maxHeartbeats 400000 in
theorem rput_no (w : World) (p b n : Nat) (a v : Int) (f : Nat → Int) (hm : RefAt w p b n f) (ha : ¬ (0 ≤ a ∧ a < n)) :
    Calls Try.prog 11 #[.pointer (some ⟨p, 0, none⟩), .int .i64 a, .int .u64 v] w fun e w' => e = .returned (.int .i64 1) ∧ w' = w := by
  have hc := hm.cell
  have hn := hm.hi
  by_cases c1 : a < 0
  · clear ha
    go_enter Try.func11, Try.ntmps11
    go_wp2
    go_ret
    exact ⟨rfl, rfl⟩
  · have c2 : (n : Int) ≤ a := by omega
    clear ha
    go_enter Try.func11, Try.ntmps11
    go_wp2
    go_ret
    exact ⟨rfl, rfl⟩

set_option maxHeartbeats 400000 in
theorem rzero_no (w : World) (p b n : Nat) (a k : Int) (f : Nat → Int) (hm : RefAt w p b n f) (h : ¬ (0 ≤ a ∧ 0 ≤ k ∧ a + k ≤ n)) :
    Calls Try.prog 13 #[.pointer (some ⟨p, 0, none⟩), .int .i64 a, .int .i64 k] w fun e w' => e = .returned (.int .i64 1) ∧ w' = w := by
  have hc := hm.cell
  have hn := hm.hi
  have h2 : Hid (¬ (0 ≤ a ∧ 0 ≤ k ∧ a + k ≤ n)) := hideIt h
  clear h
  go_enter Try.func13, Try.ntmps13
  go_wp2_with (go_at_call 25; refine (rthere_no _ p b n a k hc hn h2.out).mono ?_; rintro e w' ⟨rfl, rfl⟩)
  go_ret
  exact ⟨rfl, rfl⟩

set_option maxHeartbeats 400000 in
theorem rzero_yes (w : World) (p b n a k : Nat) (f : Nat → Int) (hm : RefAt w p b n f) (h : a + k ≤ n) :
    Calls Try.prog 13 #[.pointer (some ⟨p, 0, none⟩), .int .i64 a, .int .i64 k] w fun e w' => e = .returned (.int .i64 0) ∧ RefAt w' p b n (fun i => if a ≤ i ∧ i < a + k then 0 else f i) ∧ w.grownBy w' (some b) := by
  have hn := hm.hi
  go_enter Try.func13, Try.ntmps13
  go_wp2_with (go_at_call 25; refine (rthere_yes _ p b n a k hm.cell hn h).mono ?_; rintro e w' ⟨rfl, rfl⟩)
  go_loopw [7] (fun i wr => ∃ j : Nat, j ≤ k ∧ i = .int .i64 j ∧ RefAt wr p b n (fun i => if a ≤ i ∧ i < a + j then 0 else f i) ∧ w'.grownBy wr (some b)) (fun i _ => k - (intOf i).toNat)
  case atStart => exact ⟨0, by omega, rfl, hm.turn (hm.row) (gbRefl _ _) (fun i _ => by rw [if_neg (by omega)]), gbRefl _ _⟩
  case round =>
    obtain ⟨j, hj, rfl, hr, hg⟩ := hrel
    have hc := hr.cell
    by_cases hlt : j < k
    · obtain ⟨x, hx, E⟩ : ∃ x : Nat, Hid (x = a + j) ∧ (a : Int) + (j : Int) = (x : Int) := ⟨a + j, hideIt rfl, by omega⟩
      have l1 : x < n := by have := hx.out; omega
      have hr1 := hr.row.cell l1
      have hf1 := hr.row.frozen x
      go_wp2
      go_roundw
      case rel =>
        have hx := hx.out
        refine ⟨j + 1, by omega, by go_num, (hr.put x 0).turn (hr.put x 0).row (gbRefl _ _) (fun i hi => ?_), gbTrans hg (gbSetCell _ _ _ _)⟩
        congr 1
        by_cases e1 : i = x
        · rw [if_pos e1, if_pos (by omega)]
        · rw [if_neg e1]
          by_cases e2 : a ≤ i ∧ i < a + j
          · rw [if_pos e2, if_pos (by omega)]
          · rw [if_neg e2, if_neg (by omega)]
      case measure => simp [intOf]; omega
    · obtain rfl : j = k := by omega
      go_wp2
      go_ret
      exact ⟨rfl, hr, hg⟩

set_option maxHeartbeats 400000 in
theorem rread_no (w : World) (p b n : Nat) (a k : Int) (f : Nat → Int) (hm : RefAt w p b n f) (h : ¬ (0 ≤ a ∧ 0 ≤ k ∧ a + k ≤ n)) :
    Calls Try.prog 17 #[.pointer (some ⟨p, 0, none⟩), .int .i64 a, .int .i64 k] w fun e w' => e = .returned (.tuple #[.slice none 0 0, .int .i64 1]) ∧ w' = w := by
  have hc := hm.cell
  have hn := hm.hi
  have h2 : Hid (¬ (0 ≤ a ∧ 0 ≤ k ∧ a + k ≤ n)) := hideIt h
  clear h
  go_enter Try.func17, Try.ntmps17
  go_wp2_with (go_at_call 25; refine (rthere_no _ p b n a k hc hn h2.out).mono ?_; rintro e w' ⟨rfl, rfl⟩)
  go_ret2
  exact ⟨rfl, rfl⟩

theorem fieldNew {w : World} {p : Nat} {v : Value} (h : w.cell? ⟨p, 0, none⟩ = some v) (o : Obj) : (w.alloc o).cell? ⟨p, 0, none⟩ = some v :=
  (World.grownBy_alloc w o none).cell h (by simp)

set_option maxHeartbeats 400000 in
theorem rread_yes (w : World) (p b n a k : Nat) (f : Nat → Int) (hm : RefAt w p b n f) (h : a + k ≤ n) :
    Calls Try.prog 17 #[.pointer (some ⟨p, 0, none⟩), .int .i64 a, .int .i64 k] w fun e w' =>
      ∃ g cap, e = .returned (.tuple #[.slice (some ⟨g, 0, none⟩) k cap, .int .i64 0]) ∧ Owns w' w.heap.size g k cap (fun i => .int .u64 (f (a + i))) ∧ w.grownBy w' none := by
  have hc := hm.cell
  have hc1 := fieldNew hc (.cells #[] 30)
  have hn := hm.hi
  obtain ⟨i0, hi, hz0, hz1, hz2⟩ := info_parts Try.info30
  have HI := hideIt hi
  have HZ0 := hideIt hz0
  have HZ1 := hideIt hz1
  have HZ2 := hideIt hz2
  clear hi hz0 hz1 hz2
  rcases Nat.lt_or_ge a n with c | c
  · have hs : Hid (∀ j, j < a + k - a → (w.alloc (.cells #[] 30)).cell? ((⟨b, a, none⟩ : Addr).add j) = some (.int .u64 (f (a + j)))) := hideIt (fun j hj => by rw [Addr.add_lit]; exact (hm.row.alloc _).cell (by omega))
    have hk0 : Hid (0 + (a + k - a) ≤ 1000000) := hideIt (by omega)
    have c' : ¬ n = a := by omega
    go_enter Try.func17, Try.ntmps17
    go_wp2_with (first
      | (go_at_call 25; refine (rthere_yes _ p b n a k hc hn h).mono ?_; rintro e w' ⟨rfl, rfl⟩)
      | (at_builtin; refine wpList_append_fn rfl (.tmp 13) (.tmp 22) 36 rfl i0 Try.underlying36 HI.out HZ0.out HZ1.out HZ2.out w'.heap.size w'.heap.size 0 0 _ rfl (Owns.none w') ⟨b, a, none⟩ (a + k - a) (n - a) (fun j => .int .u64 (f (a + j))) rfl hs.out (fun _ => rfl) hk0.out (by simp) ?_; intro g8 cap8 w8 ho8 hg8; rw [show 0 + (a + k - a) = k by omega] at ho8 ⊢))
    go_ret2
    refine ⟨g8, cap8, rfl, ho8.congr (fun i _ => by rw [if_neg (by omega), Nat.sub_zero]), gbNew (gbTrans (World.grownBy_alloc w' _ _) hg8) (Nat.le_refl _)⟩
  · obtain rfl : a = n := by omega
    obtain rfl : k = 0 := by omega
    have hs : Hid (∀ j, j < 0 → (w.alloc (.cells #[] 30)).cell? ((⟨b, 0, none⟩ : Addr).add j) = some (.int .u64 (f (a + j)))) := hideIt (fun j hj => by omega)
    go_enter Try.func17, Try.ntmps17
    go_wp2_with (first
      | (go_at_call 25; refine (rthere_yes _ p b a a 0 hc hn h).mono ?_; rintro e w' ⟨rfl, rfl⟩)
      | (at_builtin; refine wpList_append_fn rfl (.tmp 13) (.tmp 22) 36 rfl i0 Try.underlying36 HI.out HZ0.out HZ1.out HZ2.out w'.heap.size w'.heap.size 0 0 _ rfl (Owns.none w') ⟨b, 0, none⟩ 0 0 (fun j => .int .u64 (f (a + j))) rfl hs.out (fun _ => rfl) (by omega) (by simp) ?_; intro g8 cap8 w8 ho8 hg8))
    go_ret2
    refine ⟨g8, cap8, rfl, ho8.congr (fun i _ => by omega), gbNew (gbTrans (World.grownBy_alloc w' _ _) hg8) (Nat.le_refl _)⟩

set_option maxHeartbeats 400000 in
theorem rcopy_no1 (w : World) (p b n : Nat) (a c k : Int) (f : Nat → Int) (hm : RefAt w p b n f) (h : ¬ (0 ≤ a ∧ 0 ≤ k ∧ a + k ≤ n)) :
    Calls Try.prog 15 #[.pointer (some ⟨p, 0, none⟩), .int .i64 a, .int .i64 c, .int .i64 k] w fun e w' => e = .returned (.int .i64 1) ∧ w' = w := by
  have hc := hm.cell
  have hn := hm.hi
  have h2 : Hid (¬ (0 ≤ a ∧ 0 ≤ k ∧ a + k ≤ n)) := hideIt h
  clear h
  go_enter Try.func15, Try.ntmps15
  go_wp2_with (go_at_call 25; refine (rthere_no _ p b n a k hc hn h2.out).mono ?_; rintro e w' ⟨rfl, rfl⟩)
  go_ret
  exact ⟨rfl, rfl⟩

set_option maxHeartbeats 400000 in
theorem rcopy_no2 (w : World) (p b n a : Nat) (c : Int) (k : Nat) (f : Nat → Int) (hm : RefAt w p b n f) (h1 : a + k ≤ n) (h : ¬ (0 ≤ c ∧ c + k ≤ n)) :
    Calls Try.prog 15 #[.pointer (some ⟨p, 0, none⟩), .int .i64 a, .int .i64 c, .int .i64 k] w fun e w' => e = .returned (.int .i64 1) ∧ w' = w := by
  have hc := hm.cell
  have hn := hm.hi
  have h2 : Hid (¬ (0 ≤ c ∧ 0 ≤ (k : Int) ∧ c + k ≤ n)) := hideIt (by omega)
  clear h
  go_enter Try.func15, Try.ntmps15
  go_wp2_with fail
  refine (rthere_yes _ p b n a k hc hn h1).mono ?_
  rintro e w' ⟨rfl, rfl⟩
  go_wp2_with fail
  refine (rthere_no _ p b n c k hc hn h2.out).mono ?_
  rintro e w' ⟨rfl, rfl⟩
  go_wp2
  go_ret
  exact ⟨rfl, rfl⟩

theorem copied {a c j x : Nat} {f : Nat → Int} (hx : x = a + j) (i : Nat) :
    Value.int .u64 (if i = x then f (c + j) else if a ≤ i ∧ i < a + j then f (c + (i - a)) else f i) = .int .u64 (if a ≤ i ∧ i < a + (j + 1) then f (c + (i - a)) else f i) := by
  congr 1
  by_cases e1 : i = x
  · rw [if_pos e1, if_pos (by omega), show i - a = j by omega]
  · rw [if_neg e1]
    by_cases e2 : a ≤ i ∧ i < a + j
    · rw [if_pos e2, if_pos (by omega)]
    · rw [if_neg e2, if_neg (by omega)]

set_option maxHeartbeats 1000000 in
theorem rcopy_yes (w : World) (p b n a c k : Nat) (f : Nat → Int) (hm : RefAt w p b n f) (h : a + k ≤ n) (h2 : c + k ≤ n) :
    Calls Try.prog 15 #[.pointer (some ⟨p, 0, none⟩), .int .i64 a, .int .i64 c, .int .i64 k] w fun e w' => e = .returned (.int .i64 0) ∧ RefAt w' p b n (fun i => if a ≤ i ∧ i < a + k then f (c + (i - a)) else f i) ∧ w.grownBy w' (some b) := by
  have hc := hm.cell
  have hc1 := fieldNew hc (.cells #[] 30)
  have hn := hm.hi
  obtain ⟨i0, hi, hz0, hz1, hz2⟩ := info_parts Try.info30
  have HI := hideIt hi
  have HZ0 := hideIt hz0
  have HZ1 := hideIt hz1
  have HZ2 := hideIt hz2
  clear hi hz0 hz1 hz2
  have hbw : b < w.heap.size := hm.row.lt
  rcases Nat.lt_or_ge c n with d | d
  · have hs : Hid (∀ j, j < c + k - c → (w.alloc (.cells #[] 30)).cell? ((⟨b, c, none⟩ : Addr).add j) = some (.int .u64 (f (c + j)))) := hideIt (fun j hj => by rw [Addr.add_lit]; exact (hm.row.alloc _).cell (by omega))
    have hk0 : Hid (0 + (c + k - c) ≤ 1000000) := hideIt (by omega)
    have d' : ¬ n = c := by omega
    go_enter Try.func15, Try.ntmps15
    go_wp2_with fail
    refine (rthere_yes _ p b n a k hc hn h).mono ?_
    rintro e w' ⟨rfl, rfl⟩
    go_wp2_with fail
    refine (rthere_yes _ p b n c k hc hn h2).mono ?_
    rintro e w' ⟨rfl, rfl⟩
    go_wp2_with (at_builtin; refine wpList_append_fn rfl (.tmp 23) (.tmp 32) 36 rfl i0 Try.underlying36 HI.out HZ0.out HZ1.out HZ2.out w'.heap.size w'.heap.size 0 0 _ rfl (Owns.none w') ⟨b, c, none⟩ (c + k - c) (n - c) (fun j => .int .u64 (f (c + j))) rfl hs.out (fun _ => rfl) hk0.out (by simp) ?_; intro g8 cap8 w8 ho8 hg8; rw [show 0 + (c + k - c) = k by omega] at ho8 ⊢)
    have ho : Owns w8 w'.heap.size g8 k cap8 (fun i => .int .u64 (f (c + i))) := ho8.congr (fun i _ => by rw [if_neg (by omega), Nat.sub_zero])
    have hg : w'.grownBy w8 none := gbNew (gbTrans (World.grownBy_alloc w' _ _) hg8) (Nat.le_refl _)
    have hm8 := hm.keep hg (by simp) (by simp)
    have hlt8 := ho.lt
    clear ho8 hg8 hs hc hc1 hk0 d'
    go_loopw [10] (fun i wr => ∃ j : Nat, j ≤ k ∧ i = .int .i64 j ∧ RefAt wr p b n (fun i => if a ≤ i ∧ i < a + j then f (c + (i - a)) else f i) ∧ Owns wr w'.heap.size g8 k cap8 (fun i => .int .u64 (f (c + i))) ∧ w'.grownBy wr (some b)) (fun i _ => k - (intOf i).toNat)
    case atStart => exact ⟨0, by omega, rfl, hm8.turn hm8.row (gbRefl _ _) (fun i _ => by rw [if_neg (by omega)]), ho, gbAny hg _⟩
    case round =>
      obtain ⟨j, hj, rfl, hr, hw, hg⟩ := hrel
      have hc := hr.cell
      by_cases hlt : j < k
      · obtain ⟨x, hx, E⟩ : ∃ x : Nat, Hid (x = a + j) ∧ (a : Int) + (j : Int) = (x : Int) := ⟨a + j, hideIt rfl, by omega⟩
        have l1 : x < n := by have := hx.out; omega
        have hr1 := hr.row.cell l1
        have hf1 := hr.row.frozen x
        have hr2 := hw.cell hlt
        go_wp2
        go_region
        go_wp2
        go_roundw
        case rel => exact ⟨j + 1, by omega, by go_num, ((hr.put x (f (c + j))).turn (hr.put x (f (c + j))).row (gbRefl _ _) (fun i _ => copied hx.out i)).drewN 1, (hw.keep (gbSetCell wr b x _) (by simp; omega)).keep (gbDrewN _ 1 none) (by simp), gbTrans (gbTrans hg (gbSetCell _ _ _ _)) (gbDrewN _ 1 _)⟩
        case measure => simp [intOf]; omega
      · obtain rfl : j = k := by omega
        go_wp2
        go_ret
        exact ⟨rfl, hr, hg⟩
  · obtain rfl : c = n := by omega
    obtain rfl : k = 0 := by omega
    have hs : Hid (∀ j, j < 0 → (w.alloc (.cells #[] 30)).cell? ((⟨b, 0, none⟩ : Addr).add j) = some (.int .u64 (f (c + j)))) := hideIt (fun j hj => by omega)
    go_enter Try.func15, Try.ntmps15
    go_wp2_with fail
    refine (rthere_yes _ p b c a 0 hc hn h).mono ?_
    rintro e w' ⟨rfl, rfl⟩
    go_wp2_with fail
    refine (rthere_yes _ p b c c 0 hc hn h2).mono ?_
    rintro e w' ⟨rfl, rfl⟩
    go_wp2_with (at_builtin; refine wpList_append_fn rfl (.tmp 23) (.tmp 32) 36 rfl i0 Try.underlying36 HI.out HZ0.out HZ1.out HZ2.out w'.heap.size w'.heap.size 0 0 _ rfl (Owns.none w') ⟨b, 0, none⟩ 0 0 (fun j => .int .u64 (f (c + j))) rfl hs.out (fun _ => rfl) (by omega) (by simp) ?_; intro g8 cap8 w8 ho8 hg8)
    have hg : w'.grownBy w8 none := gbNew (gbTrans (World.grownBy_alloc w' _ _) hg8) (Nat.le_refl _)
    have hm8 := hm.keep hg (by simp) (by simp)
    refine wp_loop_rounds 1 ?_
    rw [rounds_succ]
    go_wp2
    go_ret
    exact ⟨rfl, hm8.turn hm8.row (gbRefl _ _) (fun i _ => by rw [if_neg (by omega)]), gbAny hg _⟩

end Go.Proofs.Ytllglnomokebcaa
