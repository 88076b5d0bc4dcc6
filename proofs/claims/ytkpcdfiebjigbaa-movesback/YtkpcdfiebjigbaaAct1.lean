/-
  THE CONTRACTS of package moves: New, Node, Clear, Plant, carry, Child (written by mkact1.py).
-/
import Derived.Test.YtkpcdfiebjigbaaWay
namespace Go.Proofs.Ytkpcdfiebjigbaa
set_option maxRecDepth 10000
open Go.RowKit
set_option linter.unusedVariables false

set_option maxHeartbeats 1000000 in
theorem newCaps {w0 w : World} (g : w0.grownBy w none) : Calls Try.prog 8 #[] w fun e w' => ∃ p s t, e = .returned (.pointer (some ⟨p, 0, none⟩)) ∧ Cs w0 w' (fun i => w.heap.size ≤ i ∧ i < w'.heap.size) p s t 0 (fun _ => none) .nil ∧ w.grownBy w' none := by
  go_enter Try.func8, Try.ntmps8
  go_wp2_with fail
  refine (new_is _).mono ?_
  rintro _ w1 ⟨s, rfl, A1, g1⟩
  go_wp2_with fail
  refine (T9.new_is _).mono ?_
  rintro _ w2 ⟨t, rfl, A2, g2⟩
  have H1 := hideIt A1
  have H2 := hideIt A2
  clear A1 A2
  go_wp2
  go_ret
  have g3 := gbAlloc w2 (.cells #[.pointer (some ⟨s, 0, none⟩), .pointer (some ⟨t, 0, none⟩)] 47) none
  have s1 := g1.size
  have s2 := g2.size
  have s3 : (w2.alloc (.cells #[.pointer (some ⟨s, 0, none⟩), .pointer (some ⟨t, 0, none⟩)] 47)).heap.size = w2.heap.size + 1 := by simp
  have s0 := g.size
  refine ⟨w2.heap.size, s, t, rfl, ⟨⟨_, _, H1.out.kept (gbTrans g2 g3), H2.out.kept g3, fun i hi k => by omega, fun i hi => ⟨by omega, by omega⟩, fun i hi => ⟨by omega, by omega⟩⟩, ?_, by omega, fun i hi => by omega, gbTrans g (gbTrans g1 (gbTrans g2 g3)), Good.none, T9.Good.nil⟩, gbTrans g1 (gbTrans g2 g3)⟩
  exact Deep.blk_alloc_new w2 _

set_option maxHeartbeats 1000000 in
theorem Cs.nodeA {w0 w : World} {O : Nat → Prop} {p s t m : Nat} {S : St} {f : T9.Fo} (h : Cs w0 w O p s t m S f) (id r e : Int) (hid : I64 id) (hm : m ≤ 1000) (he : M.addE S id r = e) :
    Calls Try.prog 9 #[.pointer (some ⟨p, 0, none⟩), .int .i64 id, .int .i64 r] w fun x w' => x = .returned (.int .i64 e) ∧ Cs w0 w' (wide O w w') p s t (m + 1) (M.addS S id r) f ∧ Fr O w w' := by
  have c0 := h.c0
  go_enter Try.func9, Try.ntmps9
  go_wp2_with fail
  refine (h.add id r e hid hm he).mono ?_
  rintro _ w1 ⟨rfl, A, F⟩
  have HA := hideIt A
  have HF := hideIt F
  clear A F
  go_wp2
  go_ret
  exact ⟨rfl, HA.out, HF.out⟩

set_option maxHeartbeats 1000000 in
theorem Cs.clear {w0 w : World} {O : Nat → Prop} {p s t m : Nat} {S : St} {f : T9.Fo} (h : Cs w0 w O p s t m S f) (id e : Int) (hid : I64 id) (he : M.dropE S id = e) :
    Calls Try.prog 26 #[.pointer (some ⟨p, 0, none⟩), .int .i64 id] w fun x w' => x = .returned (.int .i64 e) ∧ Cs w0 w' (wide O w w') p s t m (M.dropS S id) f ∧ Fr O w w' := by
  have c0 := h.c0
  go_enter Try.func26, Try.ntmps26
  go_wp2_with fail
  refine (h.wipe id e hid he).mono ?_
  rintro _ w1 ⟨rfl, A, F⟩
  have HA := hideIt A
  have HF := hideIt F
  clear A F
  go_wp2
  go_ret
  exact ⟨rfl, HA.out, HF.out⟩

set_option maxHeartbeats 2000000 in
theorem Cs.plant {w0 w : World} {O : Nat → Prop} {p s t m : Nat} {S : St} {f : T9.Fo} (h : Cs w0 w O p s t m S f) (I : M.Inv S f) (a c k o r b g u e : Int) (ha : I64 a) (hc : I64 c) (hb : 0 ≤ b) (hg : 0 ≤ g) (hm : f.len ≤ 1000) (he : M.plaE S (a, c) ⟨k, o, r, b, g, u⟩ = e) :
    Calls Try.prog 10 #[.pointer (some ⟨p, 0, none⟩), sv a c, cv ⟨k, o, r, b, g, u⟩] w fun x w' => x = .returned (.int .i64 e) ∧ Cs w0 w' (wide O w w') p s t m (M.plaS S (a, c) ⟨k, o, r, b, g, u⟩) (M.plaF S f (a, c) ⟨k, o, r, b, g, u⟩) ∧ Fr O w w' := by
  obtain ⟨v, hv⟩ : ∃ v, (e != 0) = v := ⟨_, rfl⟩
  have hw0 := h.gr.size
  have hlo := h.lo
  have HH := hideIt h
  clear h
  go_enter Try.func10, Try.ntmps10
  go_upto_region 1 with fail
  obtain ⟨W, hW, X, Y, g0⟩ := slotBox w a c ⟨k, o, r, b, g, u⟩
  simp only at hW
  rw [hW]
  clear hW
  have HW := hideIt ((Wy.start HH.out).kept (gbTrans g0 (gbDrewN W 1 none)))
  have HX := hideIt (SB.kept ⟨X, (Wy.start HH.out).out (Nat.le_refl _)⟩ (gbDrewN W 1 none))
  have HY := hideIt (BB.kept ⟨Y, (Wy.start HH.out).out (Nat.le_succ _)⟩ (gbDrewN W 1 none))
  clear X Y g0
  have T0 : Ptr W.drew p 0 s ∧ Two W.drew w.heap.size a c ∧ Six W.drew (w.heap.size + 1) ⟨k, o, r, b, g, u⟩ := ⟨HW.out.cs.c0, HX.out.sb.tup, HY.out.bx.tup⟩
  go_region_held3 (fun w' => Ptr w' p 0 s ∧ Two w' w.heap.size a c ∧ Six w' (w.heap.size + 1) ⟨k, o, r, b, g, u⟩)
    (first | with_reducible exact T0 | with_reducible exact T1 | fail)
    ((first | (go_at_call 30; refine (HW.out.cs.put a c k o r b g u e ha hb hg he).mono ?_; rintro _ u1 ⟨rfl, A1, F1⟩; have HW1 := hideIt (HW.out.call A1 F1); have HX1 := hideIt (HX.out.call F1); have HY1 := hideIt (HY.out.call F1); have T1 : Ptr u1 p 0 s ∧ Two u1 w.heap.size a c ∧ Six u1 (w.heap.size + 1) ⟨k, o, r, b, g, u⟩ := ⟨HW1.out.cs.c0, HX1.out.sb.tup, HY1.out.bx.tup⟩; clear A1 F1) | fail))

  clear T0 T1
  cases v
  · have e0 : e = 0 := by simpa using hv
    subst e0
    go_upto_region 4 with fail
    have T0 : Ptr u1.drew p 1 t ∧ Two u1.drew w.heap.size a c := ⟨(HW1.out.kept (gbDrewN u1 1 none)).cs.c1, (HX1.out.kept (gbDrewN u1 1 none)).sb.tup⟩
    go_region_held3 (fun w' => Ptr w' p 1 t ∧ Two w' w.heap.size a c)
      (first | with_reducible exact T0 | with_reducible exact T1 | fail)
      ((first | (go_at_call 31; refine ((HW1.out.kept (gbDrewN u1 1 none)).cs.root a c 0 ha hc hm (M.pla_root I he)).mono ?_; rintro _ u2 ⟨rfl, A2, F2⟩; have HW2 := hideIt ((HW1.out.kept (gbDrewN u1 1 none)).call A2 F2); have HX2 := hideIt ((HX1.out.kept (gbDrewN u1 1 none)).call F2); have T1 : Ptr u2 p 1 t ∧ Two u2 w.heap.size a c := ⟨HW2.out.cs.c1, HX2.out.sb.tup⟩; clear A2 F2) | fail))

    clear T0 T1
    go_wp2
    go_ret
    have E := HW2.out.fin hw0 hlo
    unfold M.plaF
    rw [if_pos he]
    exact ⟨rfl, E.1, E.2⟩
  · have e0 : e ≠ 0 := by simpa using hv
    go_wp2
    go_ret
    have E := HW1.out.fin hw0 hlo
    unfold M.plaF
    rw [if_neg (by rw [he]; exact e0)]
    exact ⟨rfl, E.1, E.2⟩

end Go.Proofs.Ytkpcdfiebjigbaa
