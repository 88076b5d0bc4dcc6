/-
  THE CONTRACTS of the document's own walk (package donjonref13): the same answers.
-/
import Derived.Test.YtfdnangceomeiaaMde
namespace Go.Proofs.Ytfdnangceomeiaa
set_option maxRecDepth 10000
open Go.RowKit
set_option linter.unusedVariables false

theorem rathere_is (w : World) (p b n : Nat) (a : Int) (t : Bool) (hc : w.cell? ⟨p, 0, none⟩ = some (.slice (some ⟨b, 0, none⟩) n n)) (hn : n ≤ 65536) (h : M.th n a = t) :
    Calls Try.prog 52 #[.pointer (some ⟨p, 0, none⟩), .int .i64 a, .int .i64 16] w fun e w' => e = .returned (.bool t) ∧ w' = w := by
  cases t
  · refine Y2.rthere_no w p b n a 16 hc hn ?_
    simp only [M.th, Bool.and_eq_false_iff, decide_eq_false_iff_not] at h
    omega
  · obtain ⟨A, rfl, hA⟩ := M.th_nat h
    exact Y2.rthere_yes w p b n A 16 hc hn hA

set_option maxHeartbeats 1000000 in
theorem rlevel_yes (p x : Nat) (W a : Int) (v t : Bool) (w : World)
    (HG : ∀ w', w.grownBy w' none → Calls Try.prog 62 #[.pointer (some ⟨p, 0, none⟩), .int .i64 x] w' fun e w'' => e = .returned (.tuple #[.int .u64 W, .int .i64 0]) ∧ w'.grownBy w'' none)
    (HU : ∀ w', Calls Try.prog 49 #[.int .u64 W] w' fun e w'' => e = .returned (.tuple #[ev ⟨true, v, a⟩, .int .i64 0]) ∧ w'.grownBy w'' none)
    (HT : ∀ w', w.grownBy w' none → Calls Try.prog 52 #[.pointer (some ⟨p, 0, none⟩), .int .i64 a, .int .i64 16] w' fun e w'' => e = .returned (.bool t) ∧ w'' = w') :
    Calls Try.prog 54 #[.pointer (some ⟨p, 0, none⟩), .int .i64 x] w fun e w' => e = .returned (.tuple #[ev ⟨true, v, a⟩, .bool t]) ∧ w.grownBy w' none := by
  have X0 : Box (w.alloc (.cells #[.bool false, .bool false, .int .i64 0] 73)) w.heap.size E.zero := Box.made w E.zero _
  have G0 := gbAlloc w (.cells #[.bool false, .bool false, .int .i64 0] 73) none
  go_enter Try.func54, Try.ntmps54
  go_wp2_with fail
  refine (HG _ G0).mono ?_
  rintro e w1 ⟨rfl, g1⟩
  go_wp2_with fail
  refine (HU _).mono ?_
  rintro e w2 ⟨rfl, g2⟩
  go_upto_region 3 with fail
  obtain ⟨W2, hW2, Y, h2⟩ := boxNew w2 ⟨true, v, a⟩ 73
  simp only at hW2
  rw [hW2]
  clear hW2
  have X2 := ((X0.kept g1).kept g2).kept h2
  have G2 := gbTrans (gbTrans (gbTrans G0 g1) g2) h2
  have l1 := ((X0.kept g1).kept g2).lt
  clear X0 G0 g1 g2 h2
  obtain ⟨a0, a1, a2, lt, fr⟩ := X2
  obtain ⟨z0, z1, z2, zt, zf⟩ := Y
  simp only at z0 z1 z2 a0 a1 a2
  have nb : ¬ w.heap.size = w2.heap.size := by omega
  have f0 := fr 0
  have f1 := fr 1
  have f2 := fr 2
  go_region_held3 (fun w' => w'.cell? ⟨w2.heap.size, 0, none⟩ = some (.bool true) ∧ w'.cell? ⟨w2.heap.size, 1, none⟩ = some (.bool v) ∧ w'.cell? ⟨w2.heap.size, 2, none⟩ = some (.int .i64 a))
    (first | exact ⟨z0, z1, z2⟩ | go_keep | fail)
    ((go_at_call 52; refine (HT _ (gbTrans G2 (gbDrewN W2 1 none))).mono ?_; rintro e w3 ⟨rfl, rfl⟩))
  go_wp2
  exact bodyPost_ret (v := .tuple #[ev ⟨true, v, a⟩, .bool t]) (by simp [results, Try.results54, go_sem, a0, a1, a2]) rfl ⟨rfl, by repeat (first | with_reducible exact G2 | refine gbDrew ?_ | refine gbSetNew ?_ _ _ _ (by omega))⟩

set_option maxHeartbeats 1000000 in
theorem rlevel_no (p x : Nat) (W a f : Int) (u v : Bool) (w : World) (h : ((f == 0) = false) ∨ ((f == 0) = true ∧ u = false))
    (HG : ∀ w', w.grownBy w' none → Calls Try.prog 62 #[.pointer (some ⟨p, 0, none⟩), .int .i64 x] w' fun e w'' => e = .returned (.tuple #[.int .u64 W, .int .i64 0]) ∧ w'.grownBy w'' none)
    (HU : ∀ w', Calls Try.prog 49 #[.int .u64 W] w' fun e w'' => e = .returned (.tuple #[ev ⟨u, v, a⟩, .int .i64 f]) ∧ w'.grownBy w'' none) :
    Calls Try.prog 54 #[.pointer (some ⟨p, 0, none⟩), .int .i64 x] w fun e w' => e = .returned (.tuple #[ev ⟨u, v, a⟩, .bool false]) ∧ w.grownBy w' none := by
  have X0 : Box (w.alloc (.cells #[.bool false, .bool false, .int .i64 0] 73)) w.heap.size E.zero := Box.made w E.zero _
  have G0 := gbAlloc w (.cells #[.bool false, .bool false, .int .i64 0] 73) none
  go_enter Try.func54, Try.ntmps54
  go_wp2_with fail
  refine (HG _ G0).mono ?_
  rintro e w1 ⟨rfl, g1⟩
  go_wp2_with fail
  refine (HU _).mono ?_
  rintro e w2 ⟨rfl, g2⟩
  go_upto_region 3 with fail
  obtain ⟨W2, hW2, Y, h2⟩ := boxNew w2 ⟨u, v, a⟩ 73
  simp only at hW2
  rw [hW2]
  clear hW2
  have X2 := ((X0.kept g1).kept g2).kept h2
  have G2 := gbTrans (gbTrans (gbTrans G0 g1) g2) h2
  have l1 := ((X0.kept g1).kept g2).lt
  clear X0 G0 g1 g2 h2
  obtain ⟨a0, a1, a2, lt, fr⟩ := X2
  obtain ⟨z0, z1, z2, zt, zf⟩ := Y
  simp only at z0 z1 z2 a0 a1 a2
  have nb : ¬ w.heap.size = w2.heap.size := by omega
  have f0 := fr 0
  have f1 := fr 1
  have f2 := fr 2
  rcases h with h | ⟨h, rfl⟩
  · go_region
    go_wp2
    exact bodyPost_ret (v := .tuple #[ev ⟨u, v, a⟩, .bool false]) (by simp [results, Try.results54, go_sem, a0, a1, a2]) rfl ⟨rfl, by repeat (first | with_reducible exact G2 | refine gbDrew ?_ | refine gbSetNew ?_ _ _ _ (by omega))⟩
  · go_region
    go_wp2
    exact bodyPost_ret (v := .tuple #[ev ⟨false, v, a⟩, .bool false]) (by simp [results, Try.results54, go_sem, a0, a1, a2]) rfl ⟨rfl, by repeat (first | with_reducible exact G2 | refine gbDrew ?_ | refine gbSetNew ?_ _ _ _ (by omega))⟩

theorem Rm.there {w w' : World} {p b n : Nat} {F : Nat → Nat} (h : Rm w p b n F) (g : w.grownBy w' none) (a : Int) (t : Bool) (ht : M.th n a = t) :
    Calls Try.prog 52 #[.pointer (some ⟨p, 0, none⟩), .int .i64 a, .int .i64 16] w' fun e w'' => e = .returned (.bool t) ∧ w'' = w' :=
  rathere_is w' p b n a t (h.kept g).is.cell h.is.hi ht
theorem Rm.get {w w' : World} {p b n : Nat} {F : Nat → Nat} (h : Rm w p b n F) (g : w.grownBy w' none) (x : Nat) (hx : x < n) :
    Calls Try.prog 62 #[.pointer (some ⟨p, 0, none⟩), .int .i64 x] w' fun e w'' => e = .returned (.tuple #[.int .u64 (F x : Int), .int .i64 0]) ∧ w'.grownBy w'' none :=
  (Y2.rget_yes w' p b n x _ (h.kept g).is hx).mono fun _ _ ⟨e, q, hq⟩ => ⟨e, hq ▸ gbDrewN w' q none⟩

theorem rlevel_is (w : World) (p b n x : Nat) (F : Nat → Nat) (c : E) (o : Bool) (hm : Rm w p b n F) (hx : x < n) (h : M.lv n F x = (c, o)) :
    Calls Try.prog 54 #[.pointer (some ⟨p, 0, none⟩), .int .i64 x] w fun e w' => e = .returned (.tuple #[ev c, .bool o]) ∧ w.grownBy w' none := by
  unfold M.lv at h
  obtain ⟨⟨⟨u, v, a⟩, f⟩, hu⟩ : ∃ q, M.up (F x) = q := ⟨_, rfl⟩
  have HU := fun w => runpack_is (F x) _ f (hm.lt x) hu w
  have HG := fun w' (g : w.grownBy w' none) => hm.get g x hx
  rw [hu] at h
  simp only [Prod.mk.injEq] at h
  obtain ⟨rfl, rfl⟩ := h
  by_cases c1 : (f == 0) = true
  · obtain rfl : f = 0 := by simpa using c1
    cases u
    · exact rlevel_no p x _ a 0 false v w (.inr ⟨rfl, rfl⟩) HG HU
    · exact rlevel_yes p x _ a v _ w HG HU (fun w' g => hm.there g a _ (by simp))
  · have c2 : (f == 0) = false := by simpa using c1
    rw [c2]
    exact rlevel_no p x _ a f u v w (.inl c2) HG HU

end Go.Proofs.Ytfdnangceomeiaa
