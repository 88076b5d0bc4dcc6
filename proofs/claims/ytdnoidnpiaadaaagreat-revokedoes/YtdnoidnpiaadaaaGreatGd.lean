/-
  WHAT BOTH SIDES BEGIN WITH, AND WHERE ADDRESSES LEAD: donjonref10's New; Radix and Count; moves' Find and Slot; donjonref08's Cap and Find upon the document's caps.
-/
import Derived.Test.YtdnoidnpiaadaaaGreatBth
import Derived.Test.YtdnoidnpiaadaaaGreatSRfnd
import Derived.Deep.RegionHeld3
namespace Go.Proofs.YtdnoidnpiaadaaaGreat
set_option maxRecDepth 10000
open Go.RowKit
set_option linter.unusedVariables false

theorem Cs.radix {w0 w : World} {O : Nat → Prop} {p s t m : Nat} {S : St} {f : T9.Fo} (h : Cs w0 w O p s t m S f) (id r : Int) (hid : I64 id) (hr : M.rad S id = r) :
    Calls Tryz.prog 9 #[.pointer (some ⟨s, 0, none⟩), .int .i64 id] w fun e w' => e = .returned (.int .i64 r) ∧ w.grownBy w' none := by
  obtain ⟨OS, OT, h1, _⟩ := h.ex
  exact radix_is h1 id r hid hr
theorem Cs.countG {w0 w : World} {O : Nat → Prop} {p s t m : Nat} {S : St} {f : T9.Fo} (h : Cs w0 w O p s t m S f) (k o v : Int) (hv : (M.cnt S k o : Int) = v) :
    Calls Tryz.prog 11 #[.pointer (some ⟨s, 0, none⟩), .int .i64 k, .int .i64 o] w fun e w' => e = .returned (.int .i64 v) ∧ w.grownBy w' none := by
  obtain ⟨OS, OT, h1, _⟩ := h.ex
  exact count_is h1 h.gs k o v hv
theorem Cs.gcap {w0 w : World} {O : Nat → Prop} {p s t m : Nat} {S : St} {f : T9.Fo} (h : Cs w0 w O p s t m S f) (x : Nat) (k o r b g n N A E : Int) (c : C) (ho : I64 o) (hp : x < 18446744073709551616) (hr : M.cp S ⟨k, o, r, b, g, n⟩ x = (N, A, c, E)) :
    Calls Tryz.prog 62 #[.pointer (some ⟨s, 0, none⟩), cv ⟨k, o, r, b, g, n⟩, .int .u64 x] w fun e w' => e = .returned (.tuple #[sv N A, cv c, .int .i64 E]) ∧ w.grownBy w' none := by
  obtain ⟨OS, OT, h1, _⟩ := h.ex
  exact capAt_is h1 h.gs x k o r b g n N A E c ho hp hr
theorem Cs.gfind {w0 w : World} {O : Nat → Prop} {p s t m : Nat} {S : St} {f : T9.Fo} (h : Cs w0 w O p s t m S f) (x : Nat) (k o r b g n d N A E : Int) (ho : I64 o) (hp : x < 18446744073709551616) (hr : M.fd S ⟨k, o, r, b, g, n⟩ x d = (N, A, E)) :
    Calls Tryz.prog 64 #[.pointer (some ⟨s, 0, none⟩), cv ⟨k, o, r, b, g, n⟩, .int .u64 x, .int .i64 d] w fun e w' => e = .returned (.tuple #[sv N A, .int .i64 E]) ∧ w.grownBy w' none := by
  obtain ⟨OS, OT, h1, _⟩ := h.ex
  exact find_is h1 h.gs x k o r b g n d N A E ho hp hr
theorem Rc.gcap {w0 w : World} {O : Nat → Prop} {q : Nat} {S : St} {f : T9.Fo} (h : Rc w0 w O q S f) (x : Nat) (k o r b g n N A E : Int) (c : C) (ho : I64 o) (hp : x < 18446744073709551616) (hr : M.cp S ⟨k, o, r, b, g, n⟩ x = (N, A, c, E)) :
    Calls Tryz.prog 17 #[.pointer (some ⟨q, 0, none⟩), cv ⟨k, o, r, b, g, n⟩, .int .u64 x] w fun e w' => e = .returned (.tuple #[sv N A, cv c, .int .i64 E]) ∧ w.grownBy w' none := by
  obtain ⟨vS, vT, OS, OT, h1, _⟩ := h.ex
  exact rcapAt_is h1 h.gs x k o r b g n N A E c ho hp hr
theorem Rc.gfind {w0 w : World} {O : Nat → Prop} {q : Nat} {S : St} {f : T9.Fo} (h : Rc w0 w O q S f) (x : Nat) (k o r b g n d N A E : Int) (ho : I64 o) (hp : x < 18446744073709551616) (hr : M.fd S ⟨k, o, r, b, g, n⟩ x d = (N, A, E)) :
    Calls Tryz.prog 19 #[.pointer (some ⟨q, 0, none⟩), cv ⟨k, o, r, b, g, n⟩, .int .u64 x, .int .i64 d] w fun e w' => e = .returned (.tuple #[sv N A, .int .i64 E]) ∧ w.grownBy w' none := by
  obtain ⟨vS, vT, OS, OT, h1, _⟩ := h.ex
  exact rfind_is h1 h.gs x k o r b g n d N A E ho hp hr

theorem rcNew {w0 : World} (w : World) (g : w0.grownBy w none) : ∃ W, w.alloc (.cells #[.slice none 0 0, .slice none 0 0] 48) = W ∧ Rc w0 W (fun i => w.heap.size ≤ i ∧ i < W.heap.size) w.heap.size (fun _ => none) .nil ∧ w.grownBy W none := by
  have hb : (w.alloc (.cells #[.slice none 0 0, .slice none 0 0] 48)).heap[w.heap.size]? = some (.cells #[.slice none 0 0, .slice none 0 0] 48) := Deep.blk_alloc_new _ _
  have hs : (w.alloc (.cells #[.slice none 0 0, .slice none 0 0] 48)).heap.size = w.heap.size + 1 := by simp
  have g1 := gbAlloc w (.cells #[.slice none 0 0, .slice none 0 0] 48) none
  have h0 := g.size
  refine ⟨_, rfl, ⟨⟨.slice none 0 0, .slice none 0 0, fun i => i = w.heap.size, fun i => i = w.heap.size, ⟨.slice none 0 0, [], ⟨hb, World.ownsRow_nil _ _ _ 3, by simp, by simp, fun _ _ => rfl, by simp⟩, rfl, fun k hk => (nomatch hk), by simp⟩, ⟨.slice none 0 0, ⟨hb, T9.Lst3.nil _ _⟩, rfl, fun k hk => (nomatch hk)⟩, fun i h _ => h, fun i h => by omega, fun i h => by omega⟩, fun i h => by omega, gbTrans g g1, Good.none, T9.Good.nil⟩, g1⟩

set_option maxHeartbeats 400000 in
theorem newRc {w0 w : World} (g : w0.grownBy w none) : Calls Tryz.prog 6 #[] w fun e w' => ∃ q, e = .returned (.pointer (some ⟨q, 0, none⟩)) ∧ Rc w0 w' (fun i => w.heap.size ≤ i ∧ i < w'.heap.size) q (fun _ => none) .nil ∧ w.grownBy w' none := by
  obtain ⟨W, hW, A, g1⟩ := rcNew w g
  have HA := hideIt A
  have HG := hideIt g1
  clear A g1
  go_enter Tryz.func6, Tryz.ntmps6
  go_wp2
  go_ret
  exact ⟨_, rfl, HA.out, HG.out⟩

theorem capSlotCap (w : World) (c : C) : ∃ W, ((w.alloc (.cells #[.int .i64 c.k, .int .i64 c.o, .int .i64 c.r, .int .u64 c.b, .int .u64 c.g, .int .i64 c.n] 25)).alloc (.cells #[.int .i64 0, .int .i64 0] 31)).alloc (.cells #[.int .i64 0, .int .i64 0, .int .i64 0, .int .u64 0, .int .u64 0, .int .i64 0] 25) = W ∧
    Box W w.heap.size c ∧ SBox W (w.heap.size + 1) 0 0 ∧ (∀ i, W.frozen? ⟨w.heap.size + 1, i, none⟩ = false) ∧ Box W (w.heap.size + 1 + 1) C.zero ∧ w.grownBy W none := by
  have g1 := gbAlloc w (.cells #[.int .i64 c.k, .int .i64 c.o, .int .i64 c.r, .int .u64 c.b, .int .u64 c.g, .int .i64 c.n] 25) none
  obtain ⟨W, hW, X, Y, g⟩ := slotCap (w.alloc (.cells #[.int .i64 c.k, .int .i64 c.o, .int .i64 c.r, .int .u64 c.b, .int .u64 c.g, .int .i64 c.n] 25)) 0 0
  rw [Deep.nblk_alloc] at X Y
  have f : ∀ i, W.frozen? ⟨w.heap.size + 1, i, none⟩ = false := by
    intro i
    have h := gbFrozen (i := i) (gbAlloc ((w.alloc (.cells #[.int .i64 c.k, .int .i64 c.o, .int .i64 c.r, .int .u64 c.b, .int .u64 c.g, .int .i64 c.n] 25)).alloc (.cells #[.int .i64 0, .int .i64 0] 31)) (.cells #[.int .i64 0, .int .i64 0, .int .i64 0, .int .u64 0, .int .u64 0, .int .i64 0] 25) none) (b := w.heap.size + 1) (by simp) (by simp)
    rw [hW] at h
    exact h.trans (by simp)
  exact ⟨W, hW, (Box.made w c).kept g, X, f, Y, gbTrans g1 g⟩
theorem frSet {O : Nat → Prop} {w w1 : World} (h : Fr O w w1) (b i : Nat) (v : Value) (hb : O b) : Fr O w (w1.setCell ⟨b, i, none⟩ v) := h.trans (Fr.at (gbSetCell _ _ _ _) hb)
abbrev Sf (w : World) (p s x : Nat) (c : C) : Prop := Ptr w p 0 s ∧ Six w x c
theorem sf_fr {w w' : World} {p s x : Nat} {c : C} {O : Nat → Prop} (h : Sf w p s x c) (F : Fr O w w') (hp : ¬ O p) (hx : ¬ O x) : Sf w' p s x c :=
  ⟨F.cell h.1 hp, F.cell h.2.1 hx, F.cell h.2.2.1 hx, F.cell h.2.2.2.1 hx, F.cell h.2.2.2.2.1 hx, F.cell h.2.2.2.2.2.1 hx, F.cell h.2.2.2.2.2.2 hx⟩

set_option maxHeartbeats 1000000 in
theorem Cs.slotA {w0 w : World} {O : Nat → Prop} {p s t m : Nat} {S : St} {f : T9.Fo} (h : Cs w0 w O p s t m S f) (x : Nat) (k o r b g n d N A E : Int) (ho : I64 o) (hp : x < 18446744073709551616) (hr : M.fd S ⟨k, o, r, b, g, n⟩ x d = (N, A, E)) :
    Calls Tryz.prog 18 #[.pointer (some ⟨p, 0, none⟩), cv ⟨k, o, r, b, g, n⟩, .int .u64 x, .int .i64 d] w fun e w' => e = .returned (.tuple #[sv N A, .int .i64 E]) ∧ w.grownBy w' none := by
  have HR := hideIt hr
  have hpl := h.plt
  have HH := hideIt h
  clear h hr
  go_enter Tryz.func18, Tryz.ntmps18
  go_upto_region 1 with fail
  obtain ⟨W, hW, X, Y, fy, g0⟩ := capSlot w ⟨k, o, r, b, g, n⟩
  simp only at hW
  rw [hW]
  clear hW
  have HX := hideIt X
  have HY := hideIt Y
  have HFy := hideIt fy
  have HC := hideIt (HH.out.kept g0)
  have HG := hideIt g0
  clear X Y fy g0 
  have T0 : Sf W.drew p s w.heap.size ⟨k, o, r, b, g, n⟩ := ⟨(HC.out.kept (gbDrewN W 1 none)).c0, (HX.out.kept (gbDrewN W 1 none)).tup⟩
  go_region_held3 (fun w' => Sf w' p s w.heap.size ⟨k, o, r, b, g, n⟩)
    (first | with_reducible exact T0 | with_reducible exact T1 | (focus (refine sf_fr (O := fun i => i = w.heap.size + 1 ∨ i = w.heap.size + 1 + 1) T1 ?_ (by omega) (by omega); (repeat (first | with_reducible exact Fr.refl _ _ | with_reducible refine frSet ?_ _ _ _ (by first | exact .inl rfl | exact .inr rfl))); done)) | fail)
    ((first | (go_at_call 64; refine ((HC.out.kept (gbDrewN W 1 none)).gfind x k o r b g n d N A E ho hp HR.out).mono ?_; rintro _ w1 ⟨rfl, g1⟩; have G1 : W.grownBy w1 none := gbTrans (gbDrewN W 1 none) g1; have T1 : Sf w1 p s w.heap.size ⟨k, o, r, b, g, n⟩ := ⟨(HC.out.kept G1).c0, (HX.out.kept G1).tup⟩; have y0 := (HY.out.kept G1).at0; have y1 := (HY.out.kept G1).at1; have f0 := (gfroz G1 _ 0 HY.out.lt).trans (HFy.out 0); have f1 := (gfroz G1 _ 1 HY.out.lt).trans (HFy.out 1)) | fail))
  all_goals (
    rename_i hold
    clear hold T0 T1 y0 y1 f0 f1
    obtain ⟨W6, hW6, Z6, g6⟩ := (HY.out.kept G1).put N A
    rw [hW6]
    clear hW6
    obtain ⟨y0, y1, _⟩ := Z6
    go_wp2
    exact bodyPost_ret (v := .tuple #[sv N A, .int .i64 E]) (by simp [results, Tryz.results18, go_sem, y0, y1]) rfl ⟨rfl, gbNew (gbTrans (gbAny (gbTrans HG.out G1) _) g6) (Nat.le_succ _)⟩)

set_option maxHeartbeats 1000000 in
theorem Cs.findA {w0 w : World} {O : Nat → Prop} {p s t m : Nat} {S : St} {f : T9.Fo} (h : Cs w0 w O p s t m S f) (x : Nat) (k o r b g n N A E k2 o2 r2 b2 g2 n2 : Int) (ho : I64 o) (hp : x < 18446744073709551616) (hr : M.cp S ⟨k, o, r, b, g, n⟩ x = (N, A, ⟨k2, o2, r2, b2, g2, n2⟩, E)) :
    Calls Tryz.prog 16 #[.pointer (some ⟨p, 0, none⟩), cv ⟨k, o, r, b, g, n⟩, .int .u64 x] w fun e w' => e = .returned (.tuple #[sv N A, cv ⟨k2, o2, r2, b2, g2, n2⟩, .int .i64 E]) ∧ w.grownBy w' none := by
  have HR := hideIt hr
  have hpl := h.plt
  have HH := hideIt h
  clear h hr
  go_enter Tryz.func16, Tryz.ntmps16
  go_upto_region 1 with fail
  obtain ⟨W, hW, X, Y, fy, Z, g0⟩ := capSlotCap w ⟨k, o, r, b, g, n⟩
  simp only at hW
  rw [hW]
  clear hW
  have HX := hideIt X
  have HY := hideIt Y
  have HFy := hideIt fy
  have HZ := hideIt Z
  have HC := hideIt (HH.out.kept g0)
  have HG := hideIt g0
  clear X Y fy g0 Z
  have T0 : Sf W.drew p s w.heap.size ⟨k, o, r, b, g, n⟩ := ⟨(HC.out.kept (gbDrewN W 1 none)).c0, (HX.out.kept (gbDrewN W 1 none)).tup⟩
  go_region_held3 (fun w' => Sf w' p s w.heap.size ⟨k, o, r, b, g, n⟩)
    (first | with_reducible exact T0 | with_reducible exact T1 | (focus (refine sf_fr (O := fun i => i = w.heap.size + 1 ∨ i = w.heap.size + 1 + 1) T1 ?_ (by omega) (by omega); (repeat (first | with_reducible exact Fr.refl _ _ | with_reducible refine frSet ?_ _ _ _ (by first | exact .inl rfl | exact .inr rfl))); done)) | fail)
    ((first | (go_at_call 62; refine ((HC.out.kept (gbDrewN W 1 none)).gcap x k o r b g n N A E ⟨k2, o2, r2, b2, g2, n2⟩ ho hp HR.out).mono ?_; rintro _ w1 ⟨rfl, g1⟩; have G1 : W.grownBy w1 none := gbTrans (gbDrewN W 1 none) g1; have T1 : Sf w1 p s w.heap.size ⟨k, o, r, b, g, n⟩ := ⟨(HC.out.kept G1).c0, (HX.out.kept G1).tup⟩; have y0 := (HY.out.kept G1).at0; have y1 := (HY.out.kept G1).at1; have f0 := (gfroz G1 _ 0 HY.out.lt).trans (HFy.out 0); have f1 := (gfroz G1 _ 1 HY.out.lt).trans (HFy.out 1); obtain ⟨z0, z1, z2, z3, z4, z5, _, zf⟩ := HZ.out.kept G1; have q0 := zf 0; have q1 := zf 1; have q2 := zf 2; have q3 := zf 3; have q4 := zf 4; have q5 := zf 5; clear zf) | fail))
  all_goals (
    rename_i hold
    clear hold T0 T1 y0 y1 f0 f1 z0 z1 z2 z3 z4 z5 q0 q1 q2 q3 q4 q5
    have ne : w.heap.size + 1 + 1 ≠ w.heap.size + 1 := by omega
    obtain ⟨W6, hW6, Z6, g6⟩ := (HY.out.kept G1).put N A
    rw [hW6]
    clear hW6
    obtain ⟨W7, hW7, Z7, g7⟩ := ((HZ.out.kept G1).keep g6 (by simp)).put ⟨k2, o2, r2, b2, g2, n2⟩
    simp only at hW7
    rw [hW7]
    clear hW7
    obtain ⟨y0, y1, _⟩ := Z6.keep g7 (Ne.symm ne)
    obtain ⟨z0, z1, z2, z3, z4, z5, _, _⟩ := Z7
    simp only at z0 z1 z2 z3 z4 z5
    go_wp2
    exact bodyPost_ret (v := .tuple #[sv N A, cv ⟨k2, o2, r2, b2, g2, n2⟩, .int .i64 E]) (by simp [results, Tryz.results16, go_sem, y0, y1, z0, z1, z2, z3, z4, z5]) rfl ⟨rfl, gbNew (gbTrans (gbAny (gbNew (gbTrans (gbAny (gbTrans HG.out G1) _) g6) (Nat.le_succ _)) _) g7) (Nat.le_add_right _ 2)⟩)
end Go.Proofs.YtdnoidnpiaadaaaGreat
