/-
  A CALL ON ITS WAY: what a call of package moves has made so far (the two parts, the frame from its beginning on), and its own boxes, which the parts do not have. Speaks of no function of the program but the parts' calls.
-/
import Derived.Test.YtpfjcfgbecoccaaEnds
namespace Go.Proofs.Ytpfjcfgbecoccaa
set_option maxRecDepth 10000
open Go.RowKit
set_option linter.unusedVariables false

/-- From w on: the parts as they are now, their blocks, and the frame. -/
structure Wy (w0 w wc : World) (O Oc : Nat → Prop) (p s t m : Nat) (S : St) (f : T9.Fo) : Prop where
  cs : Cs w0 wc Oc p s t m S f
  fr : Fr O w wc
  sub : ∀ i, Oc i → O i ∨ w.heap.size ≤ i
theorem Wy.start {w0 w : World} {O : Nat → Prop} {p s t m : Nat} {S : St} {f : T9.Fo} (h : Cs w0 w O p s t m S f) : Wy w0 w w O O p s t m S f := ⟨h, Fr.refl O w, fun i hi => .inl hi⟩
theorem Wy.kept {w0 w wc wd : World} {O Oc : Nat → Prop} {p s t m : Nat} {S : St} {f : T9.Fo} (h : Wy w0 w wc O Oc p s t m S f) (g : wc.grownBy wd none) : Wy w0 w wd O Oc p s t m S f :=
  ⟨h.cs.kept g, h.fr.trans (Fr.grown g), h.sub⟩
theorem Wy.call {w0 w wc wd : World} {O Oc : Nat → Prop} {p s t m m' : Nat} {S S' : St} {f f' : T9.Fo} (h : Wy w0 w wc O Oc p s t m S f) (A : Cs w0 wd (wide Oc wc wd) p s t m' S' f') (F : Fr Oc wc wd) : Wy w0 w wd O (wide Oc wc wd) p s t m' S' f' := by
  refine ⟨A, h.fr.join F (fun i hi k => ?_), fun i hi => ?_⟩
  · rcases h.sub i k with e | e
    · exact e
    · omega
  · rcases hi with e | e
    · exact h.sub i e
    · have := h.fr.size; exact .inr (by omega)
theorem Wy.keep {w0 w wc wd : World} {O Oc : Nat → Prop} {p s t m x : Nat} {S : St} {f : T9.Fo} (h : Wy w0 w wc O Oc p s t m S f) (g : wc.grownBy wd (some x)) (hx : ¬ Oc x) (hw : w.heap.size ≤ x) (h0 : w0.heap.size ≤ w.heap.size) : Wy w0 w wd O Oc p s t m S f :=
  ⟨h.cs.keep g hx (Nat.le_trans h0 hw), h.fr.join (Fr.at (O := fun i => i = x) g rfl) (fun i hi e => by omega), h.sub⟩
theorem Wy.fin {w0 w wc : World} {O Oc : Nat → Prop} {p s t m : Nat} {S : St} {f : T9.Fo} (h : Wy w0 w wc O Oc p s t m S f) (h0 : w0.heap.size ≤ w.heap.size) (ho : ∀ i, O i → w0.heap.size ≤ i ∧ i < w.heap.size) : Cs w0 wc (wide O w wc) p s t m S f ∧ Fr O w wc := by
  have hs := h.fr.size
  refine ⟨h.cs.mono (fun i hi => ?_) (fun i hi => ?_), h.fr⟩
  · rcases h.sub i hi with e | e
    · exact .inl e
    · exact .inr ⟨e, (h.cs.lo i hi).2⟩
  · rcases hi with e | e
    · have := ho i e; omega
    · omega
theorem Wy.out {w0 w wc : World} {O Oc : Nat → Prop} {p s t m : Nat} {S : St} {f : T9.Fo} (h : Wy w0 w wc O Oc p s t m S f) {x : Nat} (hx : wc.heap.size ≤ x) : ¬ Oc x := fun e => by have := (h.cs.lo x e).2; omega

theorem SBox.keep {w w' : World} {x y : Nat} {n i : Int} (h : SBox w x n i) (g : w.grownBy w' (some y)) (hy : x ≠ y) : SBox w' x n i := ⟨g.cell h.at0 (by simpa using hy), g.cell h.at1 (by simpa using hy), Nat.lt_of_lt_of_le h.lt g.size⟩
theorem Rd3.keep {w w' : World} {p j q x y : Nat} {n i : Int} (h : Rd3 w p j q x n i) (g : w.grownBy w' (some y)) (hp : p ≠ y) (hx : x ≠ y) : Rd3 w' p j q x n i := ⟨g.cell h.1 (by simpa using hp), g.cell h.2.1 (by simpa using hx), g.cell h.2.2 (by simpa using hx)⟩
theorem gbSet1 {a b : World} {y : Nat} (h : a.grownBy b (some y)) (i : Nat) (v : Value) : a.grownBy (b.setCell ⟨y, i, none⟩ v) (some y) := gbTrans h (gbSetCell _ _ _ _)
theorem wideNo {O : Nat → Prop} {w w' : World} {x : Nat} (h : ¬ O x) (hx : x < w.heap.size) : ¬ wide O w w' x := fun e => by
  rcases e with e | e
  · exact h e
  · omega
theorem gcellF {O : Nat → Prop} {W w1 : World} (F : Fr O W w1) (b o : Nat) (hO : ¬ O b) (hb : b < W.heap.size) : w1.cell? ⟨b, o, none⟩ = W.cell? ⟨b, o, none⟩ := World.cell?_of_block (F.block b hb hO)
theorem gfrozF {O : Nat → Prop} {W w1 : World} (F : Fr O W w1) (b o : Nat) (hO : ¬ O b) (hb : b < W.heap.size) : w1.frozen? ⟨b, o, none⟩ = W.frozen? ⟨b, o, none⟩ := World.frozen?_of_block (F.block b hb hO)
/-- A slot's name that the parts do not have. -/
structure SB (wc : World) (Oc : Nat → Prop) (x : Nat) (n i : Int) : Prop where
  sb : SBox wc x n i
  no : ¬ Oc x
theorem SB.kept {wc wd : World} {Oc : Nat → Prop} {x : Nat} {n i : Int} (h : SB wc Oc x n i) (g : wc.grownBy wd none) : SB wd Oc x n i := ⟨h.sb.kept g, h.no⟩
theorem SB.call {wc wd : World} {Oc : Nat → Prop} {x : Nat} {n i : Int} (h : SB wc Oc x n i) (F : Fr Oc wc wd) : SB wd (wide Oc wc wd) x n i :=
  ⟨F.sbox h.sb h.no, fun e => by
    rcases e with e | e
    · exact h.no e
    · have := h.sb.lt; omega⟩
theorem SB.keep {wc wd : World} {Oc : Nat → Prop} {x y : Nat} {n i : Int} (h : SB wc Oc x n i) (g : wc.grownBy wd (some y)) (hy : x ≠ y) : SB wd Oc x n i := ⟨h.sb.keep g hy, h.no⟩
/-- A capability that the parts do not have. -/
structure BB (wc : World) (Oc : Nat → Prop) (x : Nat) (c : C) : Prop where
  bx : Box wc x c
  no : ¬ Oc x
theorem BB.kept {wc wd : World} {Oc : Nat → Prop} {x : Nat} {c : C} (h : BB wc Oc x c) (g : wc.grownBy wd none) : BB wd Oc x c := ⟨h.bx.kept g, h.no⟩
theorem BB.call {wc wd : World} {Oc : Nat → Prop} {x : Nat} {c : C} (h : BB wc Oc x c) (F : Fr Oc wc wd) : BB wd (wide Oc wc wd) x c :=
  ⟨F.box h.bx h.no, fun e => by
    rcases e with e | e
    · exact h.no e
    · have := h.bx.lt; omega⟩

theorem BB.keep {wc wd : World} {Oc : Nat → Prop} {x y : Nat} {c : C} (h : BB wc Oc x c) (g : wc.grownBy wd (some y)) (hy : x ≠ y) : BB wd Oc x c := ⟨h.bx.keep g (by simpa using hy), h.no⟩
/-! ### Boxes made at a call's beginning -/
theorem slotBox (w : World) (n i : Int) (c : C) : ∃ W, (w.alloc (.cells #[.int .i64 n, .int .i64 i] 24)).alloc (.cells #[.int .i64 c.k, .int .i64 c.o, .int .i64 c.r, .int .u64 c.b, .int .u64 c.g, .int .i64 c.n] 36) = W ∧ SBox W w.heap.size n i ∧ Box W (w.heap.size + 1) c ∧ w.grownBy W none := by
  have g := gbAlloc (w.alloc (.cells #[.int .i64 n, .int .i64 i] 24)) (.cells #[.int .i64 c.k, .int .i64 c.o, .int .i64 c.r, .int .u64 c.b, .int .u64 c.g, .int .i64 c.n] 36) none
  have b := Box.made (w.alloc (.cells #[.int .i64 n, .int .i64 i] 24)) c
  rw [Deep.nblk_alloc] at b
  exact ⟨_, rfl, (SBox.made w n i).kept g, b, gbTrans (gbAlloc _ _ _) g⟩
theorem slots2 (w : World) (n i n' i' : Int) : ∃ W, (w.alloc (.cells #[.int .i64 n, .int .i64 i] 24)).alloc (.cells #[.int .i64 n', .int .i64 i'] 24) = W ∧ SBox W w.heap.size n i ∧ SBox W (w.heap.size + 1) n' i' ∧ w.grownBy W none := by
  obtain ⟨W, hW, X, g⟩ := sboxNew (w.alloc (.cells #[.int .i64 n, .int .i64 i] 24)) n' i'
  rw [Deep.nblk_alloc] at X
  exact ⟨W, hW, (SBox.made w n i).kept g, X, gbTrans (gbAlloc _ _ _) g⟩
theorem slots3 (w : World) (n i n' i' n'' i'' : Int) : ∃ W, ((w.alloc (.cells #[.int .i64 n, .int .i64 i] 24)).alloc (.cells #[.int .i64 n', .int .i64 i'] 24)).alloc (.cells #[.int .i64 n'', .int .i64 i''] 24) = W ∧ SBox W w.heap.size n i ∧ SBox W (w.heap.size + 1) n' i' ∧ SBox W (w.heap.size + 2) n'' i'' ∧ w.grownBy W none := by
  obtain ⟨W, hW, X, Y, g⟩ := slots2 (w.alloc (.cells #[.int .i64 n, .int .i64 i] 24)) n' i' n'' i''
  rw [Deep.nblk_alloc] at X Y
  exact ⟨W, hW, (SBox.made w n i).kept g, X, Y, gbTrans (gbAlloc _ _ _) g⟩
theorem slots2Box (w : World) (n i n' i' : Int) (c : C) : ∃ W, ((w.alloc (.cells #[.int .i64 n, .int .i64 i] 24)).alloc (.cells #[.int .i64 n', .int .i64 i'] 24)).alloc (.cells #[.int .i64 c.k, .int .i64 c.o, .int .i64 c.r, .int .u64 c.b, .int .u64 c.g, .int .i64 c.n] 36) = W ∧ SBox W w.heap.size n i ∧ SBox W (w.heap.size + 1) n' i' ∧ Box W (w.heap.size + 2) c ∧ w.grownBy W none := by
  obtain ⟨W, hW, X, Y, g⟩ := slotBox (w.alloc (.cells #[.int .i64 n, .int .i64 i] 24)) n' i' c
  rw [Deep.nblk_alloc] at X Y
  exact ⟨W, hW, (SBox.made w n i).kept g, X, Y, gbTrans (gbAlloc _ _ _) g⟩

/-! ### What regions read -/
abbrev Two (w : World) (x : Nat) (n i : Int) : Prop := w.cell? ⟨x, 0, none⟩ = some (.int .i64 n) ∧ w.cell? ⟨x, 1, none⟩ = some (.int .i64 i)
abbrev Ptr (w : World) (p j q : Nat) : Prop := w.cell? ⟨p, j, none⟩ = some (.pointer (some ⟨q, 0, none⟩))
theorem SBox.tup {w : World} {x : Nat} {n i : Int} (h : SBox w x n i) : Two w x n i := ⟨h.at0, h.at1⟩
end Go.Proofs.Ytpfjcfgbecoccaa

/-
  THE CONTRACTS of package moves: New, Node, Clear, Plant, carry, Child (written by mkact1.py).
-/
namespace Go.Proofs.Ytpfjcfgbecoccaa
set_option maxRecDepth 10000
open Go.RowKit
set_option linter.unusedVariables false

set_option maxHeartbeats 1000000 in
theorem newCaps {w0 w : World} (g : w0.grownBy w none) : Calls Try.prog 18 #[] w fun e w' => ∃ p s t, e = .returned (.pointer (some ⟨p, 0, none⟩)) ∧ Cs w0 w' (fun i => w.heap.size ≤ i ∧ i < w'.heap.size) p s t 0 (fun _ => none) .nil ∧ w.grownBy w' none := by
  go_enter Try.func18, Try.ntmps18
  go_wp2_with fail
  refine (new_is _).mono ?_
  rintro _ w1 ⟨s, rfl, A1, g1⟩
  go_wp2_with fail
  refine (T9.new_is _).mono ?_
  rintro _ w2 ⟨t, rfl, A2, g2⟩
  have H1 := hideIt A1
  have H2 := hideIt A2
  clear A1 A2
  go_wp2
  go_ret
  have g3 := gbAlloc w2 (.cells #[.pointer (some ⟨s, 0, none⟩), .pointer (some ⟨t, 0, none⟩)] 34) none
  have s1 := g1.size
  have s2 := g2.size
  have s3 : (w2.alloc (.cells #[.pointer (some ⟨s, 0, none⟩), .pointer (some ⟨t, 0, none⟩)] 34)).heap.size = w2.heap.size + 1 := by simp
  have s0 := g.size
  refine ⟨w2.heap.size, s, t, rfl, ⟨⟨_, _, H1.out.kept (gbTrans g2 g3), H2.out.kept g3, fun i hi k => by omega, fun i hi => ⟨by omega, by omega⟩, fun i hi => ⟨by omega, by omega⟩⟩, ?_, by omega, fun i hi => by omega, gbTrans g (gbTrans g1 (gbTrans g2 g3)), Good.none, T9.Good.nil⟩, gbTrans g1 (gbTrans g2 g3)⟩
  exact Deep.blk_alloc_new w2 _

set_option maxHeartbeats 1000000 in
theorem Cs.nodeA {w0 w : World} {O : Nat → Prop} {p s t m : Nat} {S : St} {f : T9.Fo} (h : Cs w0 w O p s t m S f) (id r e : Int) (hid : I64 id) (hm : m ≤ 1000) (he : M.addE S id r = e) :
    Calls Try.prog 19 #[.pointer (some ⟨p, 0, none⟩), .int .i64 id, .int .i64 r] w fun x w' => x = .returned (.int .i64 e) ∧ Cs w0 w' (wide O w w') p s t (m + 1) (M.addS S id r) f ∧ Fr O w w' := by
  have c0 := h.c0
  go_enter Try.func19, Try.ntmps19
  go_wp2_with fail
  refine (h.add id r e hid hm he).mono ?_
  rintro _ w1 ⟨rfl, A, F⟩
  have HA := hideIt A
  have HF := hideIt F
  clear A F
  go_wp2
  go_ret
  exact ⟨rfl, HA.out, HF.out⟩

set_option maxHeartbeats 1000000 in
theorem Cs.clear {w0 w : World} {O : Nat → Prop} {p s t m : Nat} {S : St} {f : T9.Fo} (h : Cs w0 w O p s t m S f) (id e : Int) (hid : I64 id) (he : M.dropE S id = e) :
    Calls Try.prog 63 #[.pointer (some ⟨p, 0, none⟩), .int .i64 id] w fun x w' => x = .returned (.int .i64 e) ∧ Cs w0 w' (wide O w w') p s t m (M.dropS S id) f ∧ Fr O w w' := by
  have c0 := h.c0
  go_enter Try.func63, Try.ntmps63
  go_wp2_with fail
  refine (h.wipe id e hid he).mono ?_
  rintro _ w1 ⟨rfl, A, F⟩
  have HA := hideIt A
  have HF := hideIt F
  clear A F
  go_wp2
  go_ret
  exact ⟨rfl, HA.out, HF.out⟩

set_option maxHeartbeats 2000000 in
theorem Cs.plant {w0 w : World} {O : Nat → Prop} {p s t m : Nat} {S : St} {f : T9.Fo} (h : Cs w0 w O p s t m S f) (I : M.Inv S f) (a c k o r b g u e : Int) (ha : I64 a) (hc : I64 c) (hb : 0 ≤ b) (hg : 0 ≤ g) (hm : f.len ≤ 1000) (he : M.plaE S (a, c) ⟨k, o, r, b, g, u⟩ = e) :
    Calls Try.prog 20 #[.pointer (some ⟨p, 0, none⟩), sv a c, cv ⟨k, o, r, b, g, u⟩] w fun x w' => x = .returned (.int .i64 e) ∧ Cs w0 w' (wide O w w') p s t m (M.plaS S (a, c) ⟨k, o, r, b, g, u⟩) (M.plaF S f (a, c) ⟨k, o, r, b, g, u⟩) ∧ Fr O w w' := by
  obtain ⟨v, hv⟩ : ∃ v, (e != 0) = v := ⟨_, rfl⟩
  have hw0 := h.gr.size
  have hlo := h.lo
  have HH := hideIt h
  clear h
  go_enter Try.func20, Try.ntmps20
  go_upto_region 1 with fail
  obtain ⟨W, hW, X, Y, g0⟩ := slotBox w a c ⟨k, o, r, b, g, u⟩
  simp only at hW
  rw [hW]
  clear hW
  have HW := hideIt ((Wy.start HH.out).kept (gbTrans g0 (gbDrewN W 1 none)))
  have HX := hideIt (SB.kept ⟨X, (Wy.start HH.out).out (Nat.le_refl _)⟩ (gbDrewN W 1 none))
  have HY := hideIt (BB.kept ⟨Y, (Wy.start HH.out).out (Nat.le_succ _)⟩ (gbDrewN W 1 none))
  clear X Y g0
  have T0 : Ptr W.drew p 0 s ∧ Two W.drew w.heap.size a c ∧ Six W.drew (w.heap.size + 1) ⟨k, o, r, b, g, u⟩ := ⟨HW.out.cs.c0, HX.out.sb.tup, HY.out.bx.tup⟩
  go_region_held3 (fun w' => Ptr w' p 0 s ∧ Two w' w.heap.size a c ∧ Six w' (w.heap.size + 1) ⟨k, o, r, b, g, u⟩)
    (first | with_reducible exact T0 | with_reducible exact T1 | fail)
    ((first | (go_at_call 39; refine (HW.out.cs.put a c k o r b g u e ha hb hg he).mono ?_; rintro _ u1 ⟨rfl, A1, F1⟩; have HW1 := hideIt (HW.out.call A1 F1); have HX1 := hideIt (HX.out.call F1); have HY1 := hideIt (HY.out.call F1); have T1 : Ptr u1 p 0 s ∧ Two u1 w.heap.size a c ∧ Six u1 (w.heap.size + 1) ⟨k, o, r, b, g, u⟩ := ⟨HW1.out.cs.c0, HX1.out.sb.tup, HY1.out.bx.tup⟩; clear A1 F1) | fail))

  clear T0 T1
  cases v
  · have e0 : e = 0 := by simpa using hv
    subst e0
    go_upto_region 4 with fail
    have T0 : Ptr u1.drew p 1 t ∧ Two u1.drew w.heap.size a c := ⟨(HW1.out.kept (gbDrewN u1 1 none)).cs.c1, (HX1.out.kept (gbDrewN u1 1 none)).sb.tup⟩
    go_region_held3 (fun w' => Ptr w' p 1 t ∧ Two w' w.heap.size a c)
      (first | with_reducible exact T0 | with_reducible exact T1 | fail)
      ((first | (go_at_call 40; refine ((HW1.out.kept (gbDrewN u1 1 none)).cs.root a c 0 ha hc hm (M.pla_root I he)).mono ?_; rintro _ u2 ⟨rfl, A2, F2⟩; have HW2 := hideIt ((HW1.out.kept (gbDrewN u1 1 none)).call A2 F2); have HX2 := hideIt ((HX1.out.kept (gbDrewN u1 1 none)).call F2); have T1 : Ptr u2 p 1 t ∧ Two u2 w.heap.size a c := ⟨HW2.out.cs.c1, HX2.out.sb.tup⟩; clear A2 F2) | fail))

    clear T0 T1
    go_wp2
    go_ret
    have E := HW2.out.fin hw0 hlo
    unfold M.plaF
    rw [if_pos he]
    exact ⟨rfl, E.1, E.2⟩
  · have e0 : e ≠ 0 := by simpa using hv
    go_wp2
    go_ret
    have E := HW1.out.fin hw0 hlo
    unfold M.plaF
    rw [if_neg (by rw [he]; exact e0)]
    exact ⟨rfl, E.1, E.2⟩

end Go.Proofs.Ytpfjcfgbecoccaa

/-
  THE CONTRACTS of package moves: carry, Child (written by mkact2.py).
-/
namespace Go.Proofs.Ytpfjcfgbecoccaa
set_option maxRecDepth 10000
open Go.RowKit
set_option linter.unusedVariables false

set_option maxHeartbeats 2000000 in
theorem Cs.carry {w0 w : World} {O : Nat → Prop} {p s t m : Nat} {S : St} {f : T9.Fo} (h : Cs w0 w O p s t m S f) (I : M.Inv S f) (a c a2 c2 k o r b g u : Int) (ha : I64 a) (hc : I64 c) (ha2 : I64 a2) (hc2 : I64 c2) (hb : 0 ≤ b) (hg : 0 ≤ g) (hm : f.len ≤ 1000) (he : M.endE S (a, c) (a2, c2) = 0) (hk : M.chk ⟨k, o, r, b, g, u⟩ = 0) (hn : k ≠ 0) :
    Calls Try.prog 44 #[.pointer (some ⟨p, 0, none⟩), sv a c, sv a2 c2, cv ⟨k, o, r, b, g, u⟩] w fun x w' => x = .returned (.int .i64 0) ∧ Cs w0 w' (wide O w w') p s t m (M.carS S (a, c) (a2, c2) ⟨k, o, r, b, g, u⟩) (f.moveF (a, c) (a2, c2)) ∧ Fr O w w' := by
  obtain ⟨q1, q2, q3, q4⟩ := M.car_put (c := ⟨k, o, r, b, g, u⟩) he hk hn
  obtain ⟨⟨k1, o1, r1, b1, g1, u1⟩, hd⟩ : ∃ d, M.takeC S a c = d := ⟨_, rfl⟩
  have Q := hideIt (And.intro q1 (And.intro q2 (And.intro q3 q4)))
  clear q1 q2 q3 q4 hk hn
  have hw0 := h.gr.size
  have hlo := h.lo
  have HH := hideIt h
  clear h
  go_enter Try.func44, Try.ntmps44
  go_upto_region 1 with fail
  obtain ⟨W, hW, X0, X1, X2, g0⟩ := slots2Box w a c a2 c2 ⟨k, o, r, b, g, u⟩
  try simp only at hW
  rw [hW]
  clear hW
  have HW := hideIt ((Wy.start HH.out).kept g0)
  have HX : Hid (SB W O w.heap.size a c) := ⟨X0, (Wy.start HH.out).out (by omega)⟩
  have HY : Hid (SB W O (w.heap.size + 1) a2 c2) := ⟨X1, (Wy.start HH.out).out (by omega)⟩
  have HB : Hid (BB W O (w.heap.size + 2) ⟨k, o, r, b, g, u⟩) := ⟨X2, (Wy.start HH.out).out (by omega)⟩
  clear X0 X1 X2 g0
  have T0 : Ptr W.drew p 0 s ∧ Two W.drew w.heap.size a c := ⟨(HW.out.kept (gbDrewN W 1 none)).cs.c0, (HX.out.kept (gbDrewN W 1 none)).sb.tup⟩
  go_region_held3 (fun w' => Ptr w' p 0 s ∧ Two w' w.heap.size a c)
    (first | with_reducible exact T0 | with_reducible exact T1 | fail)
    ((first | (go_at_call 59; refine ((HW.out.kept (gbDrewN W 1 none)).cs.take a c k1 o1 r1 b1 g1 u1 0 ha hd Q.out.1).mono ?_; rintro _ u1 ⟨rfl, A1, F1⟩; rw [Q.out.2.1] at A1; have HW1 := hideIt ((HW.out.kept (gbDrewN W 1 none)).call A1 F1); have HX_1 := hideIt ((HX.out.kept (gbDrewN W 1 none)).call F1); have HY_1 := hideIt ((HY.out.kept (gbDrewN W 1 none)).call F1); have HB_1 := hideIt ((HB.out.kept (gbDrewN W 1 none)).call F1); have T1 : Ptr u1 p 0 s ∧ Two u1 w.heap.size a c := ⟨HW1.out.cs.c0, HX_1.out.sb.tup⟩; clear A1 F1) | fail))
  clear T0 T1
  go_upto_region 2 with fail
  have T0 : Ptr u1.drew p 0 s ∧ Two u1.drew (w.heap.size + 1) a2 c2 ∧ Six u1.drew (w.heap.size + 2) ⟨k, o, r, b, g, u⟩ := ⟨(HW1.out.kept (gbDrewN u1 1 none)).cs.c0, (HY_1.out.kept (gbDrewN u1 1 none)).sb.tup, (HB_1.out.kept (gbDrewN u1 1 none)).bx.tup⟩
  go_region_held3 (fun w' => Ptr w' p 0 s ∧ Two w' (w.heap.size + 1) a2 c2 ∧ Six w' (w.heap.size + 2) ⟨k, o, r, b, g, u⟩)
    (first | with_reducible exact T0 | with_reducible exact T1 | fail)
    ((first | (go_at_call 39; refine ((HW1.out.kept (gbDrewN u1 1 none)).cs.put a2 c2 k o r b g u 0 ha2 hb hg Q.out.2.2.1).mono ?_; rintro _ u2 ⟨rfl, A2, F2⟩; rw [Q.out.2.2.2] at A2; have HW2 := hideIt ((HW1.out.kept (gbDrewN u1 1 none)).call A2 F2); have HX_2 := hideIt ((HX_1.out.kept (gbDrewN u1 1 none)).call F2); have HY_2 := hideIt ((HY_1.out.kept (gbDrewN u1 1 none)).call F2); have HB_2 := hideIt ((HB_1.out.kept (gbDrewN u1 1 none)).call F2); have T1 : Ptr u2 p 0 s ∧ Two u2 (w.heap.size + 1) a2 c2 ∧ Six u2 (w.heap.size + 2) ⟨k, o, r, b, g, u⟩ := ⟨HW2.out.cs.c0, HY_2.out.sb.tup, HB_2.out.bx.tup⟩; clear A2 F2) | fail))
  clear T0 T1
  go_upto_region 3 with fail
  have T0 : Ptr u2.drew p 1 t ∧ Two u2.drew w.heap.size a c ∧ Two u2.drew (w.heap.size + 1) a2 c2 := ⟨(HW2.out.kept (gbDrewN u2 1 none)).cs.c1, (HX_2.out.kept (gbDrewN u2 1 none)).sb.tup, (HY_2.out.kept (gbDrewN u2 1 none)).sb.tup⟩
  go_region_held3 (fun w' => Ptr w' p 1 t ∧ Two w' w.heap.size a c ∧ Two w' (w.heap.size + 1) a2 c2)
    (first | with_reducible exact T0 | with_reducible exact T1 | fail)
    ((first | (go_at_call 60; refine ((HW2.out.kept (gbDrewN u2 1 none)).cs.move a c a2 c2 0 ha hc ha2 hc2 hm (M.end_move I he)).mono ?_; rintro _ u3 ⟨rfl, A3, F3⟩; have HW3 := hideIt ((HW2.out.kept (gbDrewN u2 1 none)).call A3 F3); have HX_3 := hideIt ((HX_2.out.kept (gbDrewN u2 1 none)).call F3); have HY_3 := hideIt ((HY_2.out.kept (gbDrewN u2 1 none)).call F3); have HB_3 := hideIt ((HB_2.out.kept (gbDrewN u2 1 none)).call F3); have T1 : Ptr u3 p 1 t ∧ Two u3 w.heap.size a c ∧ Two u3 (w.heap.size + 1) a2 c2 := ⟨HW3.out.cs.c1, HX_3.out.sb.tup, HY_3.out.sb.tup⟩; clear A3 F3) | fail))
  clear T0 T1
  go_wp2
  go_ret
  have E := HW3.out.fin hw0 hlo
  exact ⟨rfl, E.1, E.2⟩

set_option maxHeartbeats 2000000 in
theorem Cs.childA {w0 w : World} {O : Nat → Prop} {p s t m : Nat} {S : St} {f : T9.Fo} (h : Cs w0 w O p s t m S f) (I : M.Inv S f) (a c a2 c2 k o r b g u e : Int) (ha : I64 a) (hc : I64 c) (ha2 : I64 a2) (hc2 : I64 c2) (hb : 0 ≤ b) (hg : 0 ≤ g) (hm : f.len ≤ 1000) (he : M.chiE S (a, c) (a2, c2) ⟨k, o, r, b, g, u⟩ = e) :
    Calls Try.prog 43 #[.pointer (some ⟨p, 0, none⟩), sv a c, sv a2 c2, cv ⟨k, o, r, b, g, u⟩] w fun x w' => x = .returned (.int .i64 e) ∧ Cs w0 w' (wide O w w') p s t m (M.chiS S (a, c) (a2, c2) ⟨k, o, r, b, g, u⟩) (M.chiF S f (a, c) (a2, c2) ⟨k, o, r, b, g, u⟩) ∧ Fr O w w' := by
  obtain ⟨e1, h1⟩ : ∃ e1, M.endE S (a, c) (a2, c2) = e1 := ⟨_, rfl⟩
  obtain ⟨⟨k1, o1, r1, b1, g1, u1⟩, hd⟩ : ∃ d, M.endC S (a, c) (a2, c2) = d := ⟨_, rfl⟩
  obtain ⟨v, hv⟩ : ∃ v, (e1 != 0) = v := ⟨_, rfl⟩
  have hw0 := h.gr.size
  have hlo := h.lo
  have HH := hideIt h
  clear h
  go_enter Try.func43, Try.ntmps43
  go_upto_region 1 with fail
  obtain ⟨W, hW, X0, X1, X2, g0⟩ := slots2Box w a c a2 c2 ⟨k, o, r, b, g, u⟩
  try simp only at hW
  rw [hW]
  clear hW
  have HW := hideIt ((Wy.start HH.out).kept g0)
  have HX : Hid (SB W O w.heap.size a c) := ⟨X0, (Wy.start HH.out).out (by omega)⟩
  have HY : Hid (SB W O (w.heap.size + 1) a2 c2) := ⟨X1, (Wy.start HH.out).out (by omega)⟩
  have HB : Hid (BB W O (w.heap.size + 2) ⟨k, o, r, b, g, u⟩) := ⟨X2, (Wy.start HH.out).out (by omega)⟩
  clear X0 X1 X2 g0
  obtain ⟨x0, x1⟩ := HX.out.sb.tup
  obtain ⟨y0, y1⟩ := HY.out.sb.tup
  go_wp2_with fail
  refine (HW.out.cs.ends (a, c) (a2, c2) ha ha2 _ _ hd h1).mono ?_
  rintro _ w1 ⟨rfl, g1'⟩
  clear x0 x1 y0 y1
  go_upto_region 2 with fail
  obtain ⟨W2, hW2, Z2, g2⟩ := boxNew w1 ⟨k1, o1, r1, b1, g1, u1⟩
  simp only at hW2
  rw [hW2]
  clear hW2 Z2
  have HW' := hideIt (HW.out.kept (gbTrans g1' g2))
  have HX' := hideIt (HX.out.kept (gbTrans g1' g2))
  have HY' := hideIt (HY.out.kept (gbTrans g1' g2))
  have HB' := hideIt (HB.out.kept (gbTrans g1' g2))
  clear HW HX HY HB g1' g2
  cases v
  · have z1 : e1 = 0 := by simpa using hv
    subst z1
    have he2 : M.putE S a2 c2 ⟨k, o, r, b, g, u⟩ = e := by unfold M.chiE at he; rw [if_pos h1] at he; exact he
    obtain ⟨v2, hv2⟩ : ∃ v, (e != 0) = v := ⟨_, rfl⟩
    have HE := hideIt he
    clear he
    go_upto_region 4 with fail
    have T0 : Ptr W2.drew p 0 s ∧ Two W2.drew (w.heap.size + 1) a2 c2 ∧ Six W2.drew (w.heap.size + 2) ⟨k, o, r, b, g, u⟩ := ⟨(HW'.out.kept (gbDrewN W2 1 none)).cs.c0, (HY'.out.kept (gbDrewN W2 1 none)).sb.tup, (HB'.out.kept (gbDrewN W2 1 none)).bx.tup⟩
    go_region_held3 (fun w' => Ptr w' p 0 s ∧ Two w' (w.heap.size + 1) a2 c2 ∧ Six w' (w.heap.size + 2) ⟨k, o, r, b, g, u⟩)
      (first | with_reducible exact T0 | with_reducible exact T1 | fail)
      ((first | (go_at_call 39; refine ((HW'.out.kept (gbDrewN W2 1 none)).cs.put a2 c2 k o r b g u e ha2 hb hg he2).mono ?_; rintro _ u1 ⟨rfl, A1, F1⟩; have HW1 := hideIt ((HW'.out.kept (gbDrewN W2 1 none)).call A1 F1); have HX_1 := hideIt ((HX'.out.kept (gbDrewN W2 1 none)).call F1); have HY_1 := hideIt ((HY'.out.kept (gbDrewN W2 1 none)).call F1); have HB_1 := hideIt ((HB'.out.kept (gbDrewN W2 1 none)).call F1); have T1 : Ptr u1 p 0 s ∧ Two u1 (w.heap.size + 1) a2 c2 ∧ Six u1 (w.heap.size + 2) ⟨k, o, r, b, g, u⟩ := ⟨HW1.out.cs.c0, HY_1.out.sb.tup, HB_1.out.bx.tup⟩; clear A1 F1) | fail))
    clear T0 T1
    cases v2
    · have e0 : e = 0 := by simpa using hv2
      subst e0
      go_upto_region 7 with fail
      have T0 : Ptr u1.drew p 1 t ∧ Two u1.drew w.heap.size a c ∧ Two u1.drew (w.heap.size + 1) a2 c2 := ⟨(HW1.out.kept (gbDrewN u1 1 none)).cs.c1, (HX_1.out.kept (gbDrewN u1 1 none)).sb.tup, (HY_1.out.kept (gbDrewN u1 1 none)).sb.tup⟩
      go_region_held3 (fun w' => Ptr w' p 1 t ∧ Two w' w.heap.size a c ∧ Two w' (w.heap.size + 1) a2 c2)
        (first | with_reducible exact T0 | with_reducible exact T1 | fail)
        ((first | (go_at_call 58; refine ((HW1.out.kept (gbDrewN u1 1 none)).cs.child a c a2 c2 0 ha hc ha2 hc2 hm (M.chi_child I h1)).mono ?_; rintro _ u2 ⟨rfl, A2, F2⟩; have HW2 := hideIt ((HW1.out.kept (gbDrewN u1 1 none)).call A2 F2); have HX_2 := hideIt ((HX_1.out.kept (gbDrewN u1 1 none)).call F2); have HY_2 := hideIt ((HY_1.out.kept (gbDrewN u1 1 none)).call F2); have HB_2 := hideIt ((HB_1.out.kept (gbDrewN u1 1 none)).call F2); have T1 : Ptr u2 p 1 t ∧ Two u2 w.heap.size a c ∧ Two u2 (w.heap.size + 1) a2 c2 := ⟨HW2.out.cs.c1, HX_2.out.sb.tup, HY_2.out.sb.tup⟩; clear A2 F2) | fail))
      clear T0 T1
      go_wp2
      go_ret
      have E := HW2.out.fin hw0 hlo
      unfold M.chiS M.chiF
      rw [if_pos HE.out, if_pos HE.out]
      rw [M.putS_up (x := (a2, c2)) he2] at E
      exact ⟨rfl, E.1, E.2⟩
    · have e0 : e ≠ 0 := by simpa using hv2
      go_wp2
      go_ret
      have E := HW1.out.fin hw0 hlo
      unfold M.chiS M.chiF
      rw [if_neg (by rw [HE.out]; exact e0), if_neg (by rw [HE.out]; exact e0)]
      unfold M.putS at E
      rw [if_neg (by rw [he2]; exact e0)] at E
      exact ⟨rfl, E.1, E.2⟩
  · have z1 : e1 ≠ 0 := by simpa using hv
    have ee : e1 = e := by unfold M.chiE at he; rw [if_neg (by rw [h1]; exact z1), h1] at he; exact he
    subst ee
    have HE := hideIt he
    clear he
    go_wp2
    go_ret
    have E := HW'.out.fin hw0 hlo
    unfold M.chiS M.chiF
    rw [if_neg (by rw [HE.out]; exact z1), if_neg (by rw [HE.out]; exact z1)]
    exact ⟨rfl, E.1, E.2⟩

end Go.Proofs.Ytpfjcfgbecoccaa

/-
  THE CONTRACTS of package moves: Mint, Copy, Move, Mutate (written by mkact3.py).
-/
namespace Go.Proofs.Ytpfjcfgbecoccaa
set_option maxRecDepth 10000
open Go.RowKit
set_option linter.unusedVariables false

theorem Box.gn {w : World} {x : Nat} {k o r b g n : Int} (h : Box w x ⟨k, o, r, b, g, n⟩) (g' n' : Int) : ∃ W, (w.setCell ⟨x, 4, none⟩ (.int .u64 g')).setCell ⟨x, 5, none⟩ (.int .i64 n') = W ∧ Box W x ⟨k, o, r, b, g', n'⟩ ∧ w.grownBy W (some x) := by
  obtain ⟨a0, a1, a2, a3, a4, a5, lt, fr⟩ := h
  refine ⟨_, rfl, ⟨?_, ?_, ?_, ?_, ?_, ?_, ?_, ?_⟩, gbTrans (gbSetCell _ _ _ _) (gbSetCell _ _ _ _)⟩
  · exact (World.cell?_setCell_other _ _ _ _ (by simp)).trans ((World.cell?_setCell_other _ _ _ _ (by simp)).trans a0)
  · exact (World.cell?_setCell_other _ _ _ _ (by simp)).trans ((World.cell?_setCell_other _ _ _ _ (by simp)).trans a1)
  · exact (World.cell?_setCell_other _ _ _ _ (by simp)).trans ((World.cell?_setCell_other _ _ _ _ (by simp)).trans a2)
  · exact (World.cell?_setCell_other _ _ _ _ (by simp)).trans ((World.cell?_setCell_other _ _ _ _ (by simp)).trans a3)
  · exact (World.cell?_setCell_other _ _ _ _ (by simp)).trans (World.cell?_setCell_same _ _ _ a4)
  · exact World.cell?_setCell_same _ _ _ ((World.cell?_setCell_other _ _ _ _ (by simp)).trans a5)
  · simpa [World.setCell] using lt
  · intro i; simpa using fr i

set_option maxHeartbeats 2000000 in
theorem Cs.mint {w0 w : World} {O : Nat → Prop} {p s t m : Nat} {S : St} {f : T9.Fo} (h : Cs w0 w O p s t m S f) (I : M.Inv S f) (a c a2 c2 rt bd gd bt e : Int) (ha : I64 a) (hc : I64 c) (ha2 : I64 a2) (hc2 : I64 c2) (hbd : 0 ≤ bd) (hgd : 0 ≤ gd) (hm : f.len ≤ 1000) (he : M.minE S (a, c) (a2, c2) rt bd gd bt = e) :
    Calls Try.prog 26 #[.pointer (some ⟨p, 0, none⟩), sv a c, sv a2 c2, .int .i64 rt, .int .u64 bd, .int .u64 gd, .int .i64 bt] w fun x w' => x = .returned (.int .i64 e) ∧ Cs w0 w' (wide O w w') p s t m (M.minS S (a, c) (a2, c2) rt bd gd bt) (M.minF S f (a, c) (a2, c2) rt bd gd bt) ∧ Fr O w w' := by
  obtain ⟨e1, h1⟩ : ∃ e1, M.endE S (a, c) (a2, c2) = e1 := ⟨_, rfl⟩
  obtain ⟨⟨k1, o1, r1, b1, g1, u1⟩, hd⟩ : ∃ d, M.endC S (a, c) (a2, c2) = d := ⟨_, rfl⟩
  obtain ⟨v, hv⟩ : ∃ v, (e1 != 0) = v := ⟨_, rfl⟩
  have hw0 := h.gr.size
  have hlo := h.lo
  have hgs := hideIt h.gs
  have HH := hideIt h
  clear h
  go_enter Try.func26, Try.ntmps26
  go_upto_region 1 with fail
  obtain ⟨W, hW, X0, X1, g0⟩ := slots2 w a c a2 c2
  rw [hW]
  clear hW
  have HW := hideIt ((Wy.start HH.out).kept g0)
  have HX : Hid (SB W O w.heap.size a c) := ⟨X0, (Wy.start HH.out).out (by omega)⟩
  have HY : Hid (SB W O (w.heap.size + 1) a2 c2) := ⟨X1, (Wy.start HH.out).out (by omega)⟩
  clear X0 X1 g0
  obtain ⟨x0, x1⟩ := HX.out.sb.tup
  obtain ⟨y0, y1⟩ := HY.out.sb.tup
  go_wp2_with fail
  refine (HW.out.cs.ends (a, c) (a2, c2) ha ha2 _ _ hd h1).mono ?_
  rintro _ w1 ⟨rfl, g1'⟩
  clear x0 x1 y0 y1
  go_upto_region 2 with fail
  obtain ⟨W2, hW2, Z2, g2⟩ := boxNew w1 ⟨k1, o1, r1, b1, g1, u1⟩
  simp only at hW2
  rw [hW2]
  clear hW2
  have HB : Hid (BB W2 O w1.heap.size ⟨k1, o1, r1, b1, g1, u1⟩) := ⟨Z2, (HW.out.kept g1').out (by omega)⟩
  have hZw : Hid (w.heap.size ≤ w1.heap.size) := Nat.le_trans HW.out.fr.size g1'.size
  have hXw : Hid (w.heap.size < w1.heap.size) := Nat.lt_of_lt_of_le HX.out.sb.lt g1'.size
  have hYw : Hid (w.heap.size + 1 < w1.heap.size) := Nat.lt_of_lt_of_le HY.out.sb.lt g1'.size
  have HW' := hideIt (HW.out.kept (gbTrans g1' g2))
  have HX' := hideIt (HX.out.kept (gbTrans g1' g2))
  have HY' := hideIt (HY.out.kept (gbTrans g1' g2))
  clear HW HX HY g1' g2 Z2
  cases v
  · have z1 : e1 = 0 := by simpa using hv
    subst z1
    have hcS : M.gc S (a, c) = ⟨k1, o1, r1, b1, g1, u1⟩ := by unfold M.endC at hd; rw [if_pos h1] at hd; exact hd
    have nn := I.nn (a, c)
    rw [hcS] at nn
    obtain ⟨nb, ng⟩ := nn
    simp only at nb ng
    obtain ⟨⟨k2, o2, r2, b2, g2, u2⟩, e2, hdr⟩ : ∃ d e2, M.drv ⟨k1, o1, r1, b1, g1, u1⟩ rt bd gd bt = (d, e2) := ⟨_, _, rfl⟩
    have ee : e2 = e := by unfold M.minE at he; rw [if_pos h1, hcS, hdr] at he; exact he
    subst ee
    obtain ⟨v2, hv2⟩ : ∃ v, (e2 != 0) = v := ⟨_, rfl⟩
    have HE := hideIt he
    clear he
    obtain ⟨z0, z1, z2, z3, z4, z5⟩ := HB.out.bx.tup
    simp only at z0 z1 z2 z3 z4 z5
    go_wp2_with fail
    refine (derive_is k1 o1 r1 b1 g1 u1 rt bd gd bt ⟨k2, o2, r2, b2, g2, u2⟩ e2 nb ng hbd hgd hdr _).mono ?_
    rintro _ w3 ⟨rfl, g3⟩
    clear z0 z1 z2 z3 z4 z5
    go_upto_region 5 with fail
    obtain ⟨W4, hW4, Z4, g4⟩ := boxNew w3 ⟨k2, o2, r2, b2, g2, u2⟩
    simp only at hW4
    rw [hW4]
    clear hW4
    have HW4 := hideIt (HW'.out.kept (gbTrans g3 g4))
    have HX4 := hideIt (HX'.out.kept (gbTrans g3 g4))
    have HY4 := hideIt (HY'.out.kept (gbTrans g3 g4))
    have HZ4 := hideIt Z4
    clear HW' HX' HY' HB g3 g4 Z4
    cases v2
    · have e0 : e2 = 0 := by simpa using hv2
      subst e0
      obtain ⟨x0, x1⟩ := HX4.out.sb.tup
      obtain ⟨y0, y1⟩ := HY4.out.sb.tup
      obtain ⟨z0, z1, z2, z3, z4, z5⟩ := HZ4.out.tup
      simp only at z0 z1 z2 z3 z4 z5
      have hdn := M.drv_nonneg (c := ⟨k1, o1, r1, b1, g1, u1⟩) nb ng hbd hgd hdr
      have hch : M.chiE S (a, c) (a2, c2) ⟨k2, o2, r2, b2, g2, u2⟩ = 0 := M.min_chi I hgs.out h1 (by rw [hcS]; exact hdr)
      go_wp2_with fail
      refine (HW4.out.cs.childA I a c a2 c2 k2 o2 r2 b2 g2 u2 0 ha hc ha2 hc2 hdn.1 hdn.2 hm hch).mono ?_
      rintro _ w5 ⟨rfl, A5, F5⟩
      have HW5 := hideIt (HW4.out.call A5 F5)
      clear A5 F5 x0 x1 y0 y1 z0 z1 z2 z3 z4 z5
      go_wp2
      go_ret
      have E := HW5.out.fin hw0 hlo
      unfold M.minS M.minF
      rw [if_pos HE.out, if_pos HE.out, hcS, hdr]
      unfold M.chiS M.chiF at E
      rw [if_pos hch, if_pos hch] at E
      exact ⟨rfl, E.1, E.2⟩
    · have e0 : e2 ≠ 0 := by simpa using hv2
      go_wp2
      go_ret
      have E := HW4.out.fin hw0 hlo
      unfold M.minS M.minF
      rw [if_neg (by rw [HE.out]; exact e0), if_neg (by rw [HE.out]; exact e0)]
      exact ⟨rfl, E.1, E.2⟩
  · have z1 : e1 ≠ 0 := by simpa using hv
    have ee : e1 = e := by unfold M.minE at he; rw [if_neg (by rw [h1]; exact z1), h1] at he; exact he
    subst ee
    have HE := hideIt he
    clear he
    go_wp2
    go_ret
    have E := HW'.out.fin hw0 hlo
    unfold M.minS M.minF
    rw [if_neg (by rw [HE.out]; exact z1), if_neg (by rw [HE.out]; exact z1)]
    exact ⟨rfl, E.1, E.2⟩

set_option maxHeartbeats 2000000 in
theorem Cs.moveA {w0 w : World} {O : Nat → Prop} {p s t m : Nat} {S : St} {f : T9.Fo} (h : Cs w0 w O p s t m S f) (I : M.Inv S f) (a c a2 c2 e : Int) (ha : I64 a) (hc : I64 c) (ha2 : I64 a2) (hc2 : I64 c2) (hm : f.len ≤ 1000) (he : M.endE S (a, c) (a2, c2) = e) :
    Calls Try.prog 27 #[.pointer (some ⟨p, 0, none⟩), sv a c, sv a2 c2] w fun x w' => x = .returned (.int .i64 e) ∧ Cs w0 w' (wide O w w') p s t m (M.movS S (a, c) (a2, c2)) (M.movF S f (a, c) (a2, c2)) ∧ Fr O w w' := by
  obtain ⟨e1, h1⟩ : ∃ e1, M.endE S (a, c) (a2, c2) = e1 := ⟨_, rfl⟩
  obtain ⟨⟨k1, o1, r1, b1, g1, u1⟩, hd⟩ : ∃ d, M.endC S (a, c) (a2, c2) = d := ⟨_, rfl⟩
  obtain ⟨v, hv⟩ : ∃ v, (e1 != 0) = v := ⟨_, rfl⟩
  have hw0 := h.gr.size
  have hlo := h.lo
  have hgs := hideIt h.gs
  have HH := hideIt h
  clear h
  go_enter Try.func27, Try.ntmps27
  go_upto_region 1 with fail
  obtain ⟨W, hW, X0, X1, g0⟩ := slots2 w a c a2 c2
  rw [hW]
  clear hW
  have HW := hideIt ((Wy.start HH.out).kept g0)
  have HX : Hid (SB W O w.heap.size a c) := ⟨X0, (Wy.start HH.out).out (by omega)⟩
  have HY : Hid (SB W O (w.heap.size + 1) a2 c2) := ⟨X1, (Wy.start HH.out).out (by omega)⟩
  clear X0 X1 g0
  obtain ⟨x0, x1⟩ := HX.out.sb.tup
  obtain ⟨y0, y1⟩ := HY.out.sb.tup
  go_wp2_with fail
  refine (HW.out.cs.ends (a, c) (a2, c2) ha ha2 _ _ hd h1).mono ?_
  rintro _ w1 ⟨rfl, g1'⟩
  clear x0 x1 y0 y1
  go_upto_region 2 with fail
  obtain ⟨W2, hW2, Z2, g2⟩ := boxNew w1 ⟨k1, o1, r1, b1, g1, u1⟩
  simp only at hW2
  rw [hW2]
  clear hW2
  have HB : Hid (BB W2 O w1.heap.size ⟨k1, o1, r1, b1, g1, u1⟩) := ⟨Z2, (HW.out.kept g1').out (by omega)⟩
  have hZw : Hid (w.heap.size ≤ w1.heap.size) := Nat.le_trans HW.out.fr.size g1'.size
  have hXw : Hid (w.heap.size < w1.heap.size) := Nat.lt_of_lt_of_le HX.out.sb.lt g1'.size
  have hYw : Hid (w.heap.size + 1 < w1.heap.size) := Nat.lt_of_lt_of_le HY.out.sb.lt g1'.size
  have HW' := hideIt (HW.out.kept (gbTrans g1' g2))
  have HX' := hideIt (HX.out.kept (gbTrans g1' g2))
  have HY' := hideIt (HY.out.kept (gbTrans g1' g2))
  clear HW HX HY g1' g2 Z2
  cases v
  · have z1 : e1 = 0 := by simpa using hv
    subst z1
    have hcS : M.gc S (a, c) = ⟨k1, o1, r1, b1, g1, u1⟩ := by unfold M.endC at hd; rw [if_pos h1] at hd; exact hd
    have nn := I.nn (a, c)
    rw [hcS] at nn
    obtain ⟨nb, ng⟩ := nn
    simp only at nb ng
    have ee : 0 = e := by rw [h1] at he; exact he
    subst ee
    clear he
    have hck := M.gc_chk hgs.out (a, c)
    have hkn := (M.srcE_ok (M.endE_ok h1).1).2
    rw [hcS] at hck hkn
    obtain ⟨x0, x1⟩ := HX'.out.sb.tup
    obtain ⟨y0, y1⟩ := HY'.out.sb.tup
    obtain ⟨z0, z1, z2, z3, z4, z5⟩ := HB.out.bx.tup
    simp only at z0 z1 z2 z3 z4 z5
    go_wp2_with fail
    refine (HW'.out.cs.carry I a c a2 c2 k1 o1 r1 b1 g1 u1 ha hc ha2 hc2 nb ng hm h1 hck hkn).mono ?_
    rintro _ w5 ⟨rfl, A5, F5⟩
    have HW5 := hideIt (HW'.out.call A5 F5)
    clear A5 F5 x0 x1 y0 y1 z0 z1 z2 z3 z4 z5
    go_wp2
    go_ret
    have E := HW5.out.fin hw0 hlo
    unfold M.movS M.movF
    rw [if_pos h1, if_pos h1, hcS]
    exact ⟨rfl, E.1, E.2⟩
  · have z1 : e1 ≠ 0 := by simpa using hv
    have ee : e1 = e := h1.symm.trans he
    subst ee
    have HE := hideIt he
    clear he
    go_wp2
    go_ret
    have E := HW'.out.fin hw0 hlo
    unfold M.movS M.movF
    rw [if_neg (by rw [HE.out]; exact z1), if_neg (by rw [HE.out]; exact z1)]
    exact ⟨rfl, E.1, E.2⟩

set_option maxHeartbeats 2000000 in
theorem Cs.copy {w0 w : World} {O : Nat → Prop} {p s t m : Nat} {S : St} {f : T9.Fo} (h : Cs w0 w O p s t m S f) (I : M.Inv S f) (a c a2 c2 rt e : Int) (ha : I64 a) (hc : I64 c) (ha2 : I64 a2) (hc2 : I64 c2) (hm : f.len ≤ 1000) (he : M.copE S (a, c) (a2, c2) rt = e) :
    Calls Try.prog 23 #[.pointer (some ⟨p, 0, none⟩), sv a c, sv a2 c2, .int .i64 rt] w fun x w' => x = .returned (.int .i64 e) ∧ Cs w0 w' (wide O w w') p s t m (M.copS S (a, c) (a2, c2) rt) (M.copF S f (a, c) (a2, c2) rt) ∧ Fr O w w' := by
  obtain ⟨⟨k1, o1, r1, b1, g1, u1⟩, hd⟩ : ∃ d, M.gc S (a, c) = d := ⟨_, rfl⟩
  obtain ⟨e1, h1⟩ : ∃ e1, M.getE S a c = e1 := ⟨_, rfl⟩
  have hnn := (I.nn (a, c)).2
  unfold M.copS M.copF
  unfold M.copE at he
  rw [hd] at he hnn ⊢
  simp only at he hnn ⊢
  have hw0 := h.gr.size
  have hlo := h.lo
  have hgs := hideIt h.gs
  have HH := hideIt h
  clear h
  go_enter Try.func23, Try.ntmps23
  go_upto_region 1 with fail
  obtain ⟨W, hW, X0, X1, g0⟩ := slots2 w a c a2 c2
  rw [hW]
  clear hW
  have HW := hideIt ((Wy.start HH.out).kept g0)
  have HX : Hid (SB W O w.heap.size a c) := ⟨X0, (Wy.start HH.out).out (by omega)⟩
  have HY : Hid (SB W O (w.heap.size + 1) a2 c2) := ⟨X1, (Wy.start HH.out).out (by omega)⟩
  clear X0 X1 g0
  have HG : gGet W s a c ⟨k1, o1, r1, b1, g1, u1⟩ e1 := fun V g => (HW.out.cs.kept g).get a c _ _ _ _ _ _ _ ha hd h1
  go_cut [9, 10] (fun s6 s7 wc => ∃ Z : Nat, s6 = .pointer (some ⟨Z, 0, none⟩) ∧ s7 = .int .i64 e1 ∧ Hid (Box wc Z ⟨k1, o1, r1, b1, g1, u1⟩) ∧ Hid (W.grownBy wc none))
  case first =>
    have T0b : Rd3 W p 0 s w.heap.size a c := ⟨HW.out.cs.c0, HX.out.sb.at0, HX.out.sb.at1⟩
    have T0 : Rd3 W.drew p 0 s w.heap.size a c := T0b.kept (gbDrew (gbRefl W none))
    go_region_held3 (fun w' => Rd3 w' p 0 s w.heap.size a c)
      (first | with_reducible exact T0 | (refine Rd3.kept T0b ?_; repeat (first | with_reducible exact G2 | with_reducible exact gbRefl W none | with_reducible refine gbDrew ?_ | with_reducible refine gbAllocN ?_ _ | with_reducible refine gbSetNew ?_ _ _ _ (by with_reducible first | exact Nat.le_refl _ | exact G2.size))) | fail)
      ((first | (go_at_call 11; refine (HG _ (by repeat (first | with_reducible exact gbRefl W none | with_reducible refine gbDrew ?_ | with_reducible refine gbAllocN ?_ _))).mono ?_; rintro _ v1 ⟨rfl, g5⟩; have hc3 := gcell g5; have hf3 := gfroz g5; have G2 : W.grownBy v1 none := (by first | exact gbTrans (gbDrewN W 1 none) g5 | exact gbTrans (gbDrew (gbAllocN (gbRefl W none) _)) g5)) | fail))
    · rename_i hold
      clear hold T0
      obtain ⟨W6, hW6, Z6, g6⟩ := boxNew v1 ⟨k1, o1, r1, b1, g1, u1⟩
      simp only at hW6
      rw [hW6]
      go_wp2
      go_meet
      exact ⟨_, rfl, rfl, Z6, gbTrans G2 g6⟩
    · rename_i hold
      clear hold T0
      have Z0 : Box v1 W.heap.size C.zero := ((Box.made W C.zero).kept (gbDrew (gbRefl _ none))).kept g5
      obtain ⟨W6, hW6, Z6, g6⟩ := Z0.put ⟨k1, o1, r1, b1, g1, u1⟩
      simp only at hW6
      rw [hW6]
      have G7 := gbNew (gbTrans (gbAny G2 _) g6) (Nat.le_refl _)
      go_wp2
      go_meet
      exact ⟨_, rfl, rfl, Z6, G7⟩
  case rest =>
    obtain ⟨Z, rfl, rfl, HZ, GG⟩ := hcut
    obtain ⟨z0, z1, z2, z3, z4, z5⟩ := HZ.out.tup
    simp only at z0 z1 z2 z3 z4 z5
    obtain ⟨x0, x1⟩ := (HX.out.kept GG.out).sb.tup
    obtain ⟨y0, y1⟩ := (HY.out.kept GG.out).sb.tup
    go_wp2_with fail
    refine ((HW.out.kept GG.out).cs.mint I a c a2 c2 rt 0 g1 u1 e ha hc ha2 hc2 (Int.le_refl 0) hnn hm he).mono ?_
    rintro _ w5 ⟨rfl, A5, F5⟩
    have HW5 := hideIt ((HW.out.kept GG.out).call A5 F5)
    clear A5 F5 x0 x1 y0 y1 z0 z1 z2 z3 z4 z5
    go_wp2
    go_ret
    have E := HW5.out.fin hw0 hlo
    exact ⟨rfl, E.1, E.2⟩

end Go.Proofs.Ytpfjcfgbecoccaa

/-
  THE CONTRACTS of package moves: Take, turn, Rotate (written by mkact4.py).
-/
namespace Go.Proofs.Ytpfjcfgbecoccaa
set_option maxRecDepth 10000
open Go.RowKit
set_option linter.unusedVariables false

abbrev Tk3 (w : World) (p t x : Nat) (a c : Int) (Z : Nat) (d : C) : Prop := Ptr w p 1 t ∧ Two w x a c ∧ Six w Z d
theorem Tk3.keep {w w' : World} {p t x Z y : Nat} {a c : Int} {d : C} (h : Tk3 w p t x a c Z d) (g : w.grownBy w' (some y)) (hp : p ≠ y) (hx : x ≠ y) (hz : Z ≠ y) : Tk3 w' p t x a c Z d := by
  obtain ⟨h1, ⟨h2, h3⟩, z0, z1, z2, z3, z4, z5⟩ := h
  exact ⟨g.cell h1 (by simpa using hp), ⟨g.cell h2 (by simpa using hx), g.cell h3 (by simpa using hx)⟩, g.cell z0 (by simpa using hz), g.cell z1 (by simpa using hz), g.cell z2 (by simpa using hz), g.cell z3 (by simpa using hz), g.cell z4 (by simpa using hz), g.cell z5 (by simpa using hz)⟩

set_option maxHeartbeats 2000000 in
theorem Cs.take_no {w0 w : World} {O : Nat → Prop} {p s t m : Nat} {S : St} {f : T9.Fo} (h : Cs w0 w O p s t m S f) (I : M.Inv S f) (a c k o r b g u e : Int) (ha : I64 a) (hc : I64 c) (hm : f.len ≤ 1000) (hC : M.srcC S (a, c) = ⟨k, o, r, b, g, u⟩) (he : M.srcE S (a, c) = e) (hn : (e != 0) = true) :
    Calls Try.prog 62 #[.pointer (some ⟨p, 0, none⟩), sv a c] w fun x w' => x = .returned (.tuple #[cv ⟨k, o, r, b, g, u⟩, .int .i64 e]) ∧ Cs w0 w' (wide O w w') p s t m (M.takS S (a, c)) (M.takF S f (a, c)) ∧ Fr O w w' := by
  have hw0 := h.gr.size
  have hlo := h.lo
  have hgs := hideIt h.gs
  have HH := hideIt h
  clear h
  go_enter Try.func62, Try.ntmps62
  go_upto_region 1 with fail
  obtain ⟨W, hW, X0, X1, g0⟩ := slotCap w a c
  rw [hW]
  clear hW
  have HW := hideIt ((Wy.start HH.out).kept g0)
  have HX : Hid (SB W O w.heap.size a c) := ⟨X0, (Wy.start HH.out).out (by omega)⟩
  have HR : Hid (BB W O (w.heap.size + 1) C.zero) := ⟨X1, (Wy.start HH.out).out (by omega)⟩
  clear X0 X1 g0
  go_cut [6, 7] (fun s6 s7 wc => ∃ (Z : Nat) (Oc : Nat → Prop), s6 = .pointer (some ⟨Z, 0, none⟩) ∧ s7 = .int .i64 e ∧ Hid (Wy w0 w wc O Oc p s t m (M.takeS S a c) f) ∧ Hid (BB wc Oc Z ⟨k, o, r, b, g, u⟩) ∧ Hid (SB wc Oc w.heap.size a c) ∧ Hid (BB wc Oc (w.heap.size + 1) C.zero) ∧ Hid (w.heap.size + 1 < Z))
  case first =>
    have T0b : Rd3 W p 0 s w.heap.size a c := ⟨HW.out.cs.c0, HX.out.sb.at0, HX.out.sb.at1⟩
    have T0 : Rd3 W.drew p 0 s w.heap.size a c := T0b.kept (gbDrew (gbRefl W none))
    have pW := HW.out.cs.plt
    have xW := HX.out.sb.lt
    go_region_held3 (fun w' => Rd3 w' p 0 s w.heap.size a c)
      (first | with_reducible exact T0 | with_reducible exact T1 | (focus (refine Rd3.kept T1 ?_; (repeat (first | with_reducible refine gbAllocN ?_ _ | with_reducible refine gbSetNew ?_ _ _ _ (by with_reducible exact Nat.le_refl _) | with_reducible exact gbRefl _ _)); done)) | (focus (refine Rd3.keep (y := W.heap.size) T1 ?_ (Nat.ne_of_lt pW) (Nat.ne_of_lt xW); (repeat (first | with_reducible refine gbSet1 ?_ _ _ | with_reducible exact gbRefl _ _)); done)) | (focus (refine Rd3.kept T0b ?_; (repeat (first | with_reducible exact gbRefl W none | with_reducible refine gbDrew ?_ | with_reducible refine gbAllocN ?_ _)); done)) | fail)
      ((first | (go_at_call 59; refine ((HW.out.kept (by repeat (first | with_reducible exact gbRefl W none | with_reducible refine gbDrew ?_ | with_reducible refine gbAllocN ?_ _))).cs.take a c k o r b g u e ha hC he).mono ?_; rintro _ wu1 ⟨rfl, A1, F1⟩; have hcc := fun o (hb : W.heap.size < _) => gcellF F1 W.heap.size o (HW.out.out (Nat.le_refl _)) hb; have hff := fun o (hb : W.heap.size < _) => gfrozF F1 W.heap.size o (HW.out.out (Nat.le_refl _)) hb; have HW1 := hideIt ((HW.out.kept (by repeat (first | with_reducible exact gbRefl W none | with_reducible refine gbDrew ?_ | with_reducible refine gbAllocN ?_ _))).call A1 F1); have HX_1 := hideIt ((HX.out.kept (by repeat (first | with_reducible exact gbRefl W none | with_reducible refine gbDrew ?_ | with_reducible refine gbAllocN ?_ _))).call F1); have HR_1 := hideIt ((HR.out.kept (by repeat (first | with_reducible exact gbRefl W none | with_reducible refine gbDrew ?_ | with_reducible refine gbAllocN ?_ _))).call F1); have T1 : Rd3 wu1 p 0 s w.heap.size a c := ⟨HW1.out.cs.c0, HX_1.out.sb.at0, HX_1.out.sb.at1⟩) | fail))
    · rename_i hold
      clear hold T0
      obtain ⟨W6, hW6, Z6, g6⟩ := boxNew wu1 ⟨k, o, r, b, g, u⟩
      simp only at hW6
      rw [hW6]
      go_wp2
      go_meet
      exact ⟨_, _, rfl, rfl, hideIt (HW1.out.kept g6), hideIt ⟨Z6, HW1.out.out (Nat.le_refl _)⟩, hideIt (HX_1.out.kept (g6)), hideIt (HR_1.out.kept (g6)), hideIt (Nat.lt_of_lt_of_le HR.out.bx.lt (Nat.le_trans (gbDrewN W 1 none).size F1.size))⟩
    · rename_i hold
      clear hold T0
      have Z0 : Box wu1 W.heap.size C.zero := F1.box ((Box.made W C.zero).kept (gbDrew (gbRefl _ none))) (HW.out.out (Nat.le_refl _))
      have Zn := wideNo (O := _) (w' := wu1) (HW.out.out (Nat.le_refl _)) ((Box.made W C.zero).kept (gbDrew (gbRefl _ none))).lt
      obtain ⟨W6, hW6, Z6, g6⟩ := Z0.put ⟨k, o, r, b, g, u⟩
      simp only at hW6
      rw [hW6]
      go_wp2
      go_meet
      exact ⟨_, _, rfl, rfl, hideIt (HW1.out.keep g6 Zn HW.out.fr.size hw0), hideIt ⟨Z6, Zn⟩, hideIt (HX_1.out.keep g6 (Nat.ne_of_lt HX.out.sb.lt)), hideIt (HR_1.out.keep g6 (Nat.ne_of_lt HR.out.bx.lt)), hideIt HR.out.bx.lt⟩
  case rest =>
    obtain ⟨Z1, Oc1, rfl, rfl, HW1, HP_1, HX_1, HR_1, HZ1⟩ := hcut
    obtain ⟨q0, q1, q2, q3, q4, q5, _, qf⟩ := HR_1.out.bx
    have f0 := qf 0
    have f1 := qf 1
    have f2 := qf 2
    have f3 := qf 3
    have f4 := qf 4
    have f5 := qf 5
    clear qf
    go_wp2
    obtain ⟨W7, hW7, Q7, g7⟩ := HR_1.out.bx.put C.zero
    rw [hW7]
    clear hW7 q0 q1 q2 q3 q4 q5 f0 f1 f2 f3 f4 f5
    obtain ⟨y0, y1, y2, y3, y4, y5, _, _⟩ := Q7
    have z1 : e ≠ 0 := by simpa using hn
    have hz : (⟨k, o, r, b, g, u⟩ : C) = C.zero := hC.symm.trans (M.srcC_no (by rw [he]; exact z1))
    cases hz
    have E := (HW1.out.keep g7 HR_1.out.no (Nat.le_succ _) hw0).fin hw0 hlo
    unfold M.takF M.takS
    rw [if_neg (by rw [he]; exact z1)]
    exact bodyPost_ret (v := .tuple #[cv C.zero, .int .i64 e]) (by simp [results, Try.results62, go_sem, y0, y1, y2, y3, y4, y5]) rfl ⟨rfl, E.1, E.2⟩

set_option maxHeartbeats 2000000 in
theorem Cs.take_yes {w0 w : World} {O : Nat → Prop} {p s t m : Nat} {S : St} {f : T9.Fo} (h : Cs w0 w O p s t m S f) (I : M.Inv S f) (a c k o r b g u e : Int) (ha : I64 a) (hc : I64 c) (hm : f.len ≤ 1000) (hC : M.srcC S (a, c) = ⟨k, o, r, b, g, u⟩) (he : M.srcE S (a, c) = e) (hn : e = 0) :
    Calls Try.prog 62 #[.pointer (some ⟨p, 0, none⟩), sv a c] w fun x w' => x = .returned (.tuple #[cv ⟨k, o, r, b, g, u⟩, .int .i64 e]) ∧ Cs w0 w' (wide O w w') p s t m (M.takS S (a, c)) (M.takF S f (a, c)) ∧ Fr O w w' := by
  subst hn
  have hw0 := h.gr.size
  have hlo := h.lo
  have hgs := hideIt h.gs
  have HH := hideIt h
  clear h
  go_enter Try.func62, Try.ntmps62
  go_upto_region 1 with fail
  obtain ⟨W, hW, X0, X1, g0⟩ := slotCap w a c
  rw [hW]
  clear hW
  have HW := hideIt ((Wy.start HH.out).kept g0)
  have HX : Hid (SB W O w.heap.size a c) := ⟨X0, (Wy.start HH.out).out (by omega)⟩
  have HR : Hid (BB W O (w.heap.size + 1) C.zero) := ⟨X1, (Wy.start HH.out).out (by omega)⟩
  clear X0 X1 g0
  go_cut [6, 7] (fun s6 s7 wc => ∃ (Z : Nat) (Oc : Nat → Prop), s6 = .pointer (some ⟨Z, 0, none⟩) ∧ s7 = .int .i64 0 ∧ Hid (Wy w0 w wc O Oc p s t m (M.takeS S a c) f) ∧ Hid (BB wc Oc Z ⟨k, o, r, b, g, u⟩) ∧ Hid (SB wc Oc w.heap.size a c) ∧ Hid (BB wc Oc (w.heap.size + 1) C.zero) ∧ Hid (w.heap.size + 1 < Z))
  case first =>
    have T0b : Rd3 W p 0 s w.heap.size a c := ⟨HW.out.cs.c0, HX.out.sb.at0, HX.out.sb.at1⟩
    have T0 : Rd3 W.drew p 0 s w.heap.size a c := T0b.kept (gbDrew (gbRefl W none))
    have pW := HW.out.cs.plt
    have xW := HX.out.sb.lt
    go_region_held3 (fun w' => Rd3 w' p 0 s w.heap.size a c)
      (first | with_reducible exact T0 | with_reducible exact T1 | (focus (refine Rd3.kept T1 ?_; (repeat (first | with_reducible refine gbAllocN ?_ _ | with_reducible refine gbSetNew ?_ _ _ _ (by with_reducible exact Nat.le_refl _) | with_reducible exact gbRefl _ _)); done)) | (focus (refine Rd3.keep (y := W.heap.size) T1 ?_ (Nat.ne_of_lt pW) (Nat.ne_of_lt xW); (repeat (first | with_reducible refine gbSet1 ?_ _ _ | with_reducible exact gbRefl _ _)); done)) | (focus (refine Rd3.kept T0b ?_; (repeat (first | with_reducible exact gbRefl W none | with_reducible refine gbDrew ?_ | with_reducible refine gbAllocN ?_ _)); done)) | fail)
      ((first | (go_at_call 59; refine ((HW.out.kept (by repeat (first | with_reducible exact gbRefl W none | with_reducible refine gbDrew ?_ | with_reducible refine gbAllocN ?_ _))).cs.take a c k o r b g u 0 ha hC he).mono ?_; rintro _ wu1 ⟨rfl, A1, F1⟩; have hcc := fun o (hb : W.heap.size < _) => gcellF F1 W.heap.size o (HW.out.out (Nat.le_refl _)) hb; have hff := fun o (hb : W.heap.size < _) => gfrozF F1 W.heap.size o (HW.out.out (Nat.le_refl _)) hb; have HW1 := hideIt ((HW.out.kept (by repeat (first | with_reducible exact gbRefl W none | with_reducible refine gbDrew ?_ | with_reducible refine gbAllocN ?_ _))).call A1 F1); have HX_1 := hideIt ((HX.out.kept (by repeat (first | with_reducible exact gbRefl W none | with_reducible refine gbDrew ?_ | with_reducible refine gbAllocN ?_ _))).call F1); have HR_1 := hideIt ((HR.out.kept (by repeat (first | with_reducible exact gbRefl W none | with_reducible refine gbDrew ?_ | with_reducible refine gbAllocN ?_ _))).call F1); have T1 : Rd3 wu1 p 0 s w.heap.size a c := ⟨HW1.out.cs.c0, HX_1.out.sb.at0, HX_1.out.sb.at1⟩) | fail))
    · rename_i hold
      clear hold T0
      obtain ⟨W6, hW6, Z6, g6⟩ := boxNew wu1 ⟨k, o, r, b, g, u⟩
      simp only at hW6
      rw [hW6]
      go_wp2
      go_meet
      exact ⟨_, _, rfl, rfl, hideIt (HW1.out.kept g6), hideIt ⟨Z6, HW1.out.out (Nat.le_refl _)⟩, hideIt (HX_1.out.kept (g6)), hideIt (HR_1.out.kept (g6)), hideIt (Nat.lt_of_lt_of_le HR.out.bx.lt (Nat.le_trans (gbDrewN W 1 none).size F1.size))⟩
    · rename_i hold
      clear hold T0
      have Z0 : Box wu1 W.heap.size C.zero := F1.box ((Box.made W C.zero).kept (gbDrew (gbRefl _ none))) (HW.out.out (Nat.le_refl _))
      have Zn := wideNo (O := _) (w' := wu1) (HW.out.out (Nat.le_refl _)) ((Box.made W C.zero).kept (gbDrew (gbRefl _ none))).lt
      obtain ⟨W6, hW6, Z6, g6⟩ := Z0.put ⟨k, o, r, b, g, u⟩
      simp only at hW6
      rw [hW6]
      go_wp2
      go_meet
      exact ⟨_, _, rfl, rfl, hideIt (HW1.out.keep g6 Zn HW.out.fr.size hw0), hideIt ⟨Z6, Zn⟩, hideIt (HX_1.out.keep g6 (Nat.ne_of_lt HX.out.sb.lt)), hideIt (HR_1.out.keep g6 (Nat.ne_of_lt HR.out.bx.lt)), hideIt HR.out.bx.lt⟩
  case rest =>
    obtain ⟨Z1, Oc1, rfl, rfl, HW1, HP_1, HX_1, HR_1, HZ1⟩ := hcut
    go_upto_region 4 with fail
    have hpy : p ≠ w.heap.size + 1 := fun e => HR_1.out.no (e ▸ HW1.out.cs.op)
    have hzy : Z1 ≠ w.heap.size + 1 := Nat.ne_of_gt HZ1.out
    have hxy : w.heap.size ≠ w.heap.size + 1 := Nat.ne_of_lt (Nat.lt_succ_self _)
    have TT := M.tak_ok I he
    have T0 : Tk3 wc.drew p t w.heap.size a c Z1 ⟨k, o, r, b, g, u⟩ := ⟨(HW1.out.kept (gbDrewN wc 1 none)).cs.c1, (HX_1.out.kept (gbDrewN wc 1 none)).sb.tup, (HP_1.out.kept (gbDrewN wc 1 none)).bx.tup⟩
    go_region_held3 (fun w' => Tk3 w' p t w.heap.size a c Z1 ⟨k, o, r, b, g, u⟩)
      (first | with_reducible exact T0 | with_reducible exact T1 | (focus (refine Tk3.keep (y := w.heap.size + 1) T1 ?_ hpy hxy hzy; (repeat (first | with_reducible refine gbSet1 ?_ _ _ | with_reducible exact gbRefl _ _)); done)) | fail)
      ((first | (go_at_call 72; refine ((HW1.out.kept (gbDrewN wc 1 none)).cs.drop a c 0 ha hc hm TT.1).mono ?_; rintro _ wu2 ⟨rfl, A2, F2⟩; have HW2 := hideIt ((HW1.out.kept (gbDrewN wc 1 none)).call A2 F2); have HX_2 := hideIt ((HX_1.out.kept (gbDrewN wc 1 none)).call F2); have HP_2 := hideIt ((HP_1.out.kept (gbDrewN wc 1 none)).call F2); have HR_2 := hideIt ((HR_1.out.kept (gbDrewN wc 1 none)).call F2); have T1 : Tk3 wu2 p t w.heap.size a c Z1 ⟨k, o, r, b, g, u⟩ := ⟨HW2.out.cs.c1, HX_2.out.sb.tup, HP_2.out.bx.tup⟩; have q0 := HR_2.out.bx.at0; have q1 := HR_2.out.bx.at1; have q2 := HR_2.out.bx.at2; have q3 := HR_2.out.bx.at3; have q4 := HR_2.out.bx.at4; have q5 := HR_2.out.bx.at5; have f0 := HR_2.out.bx.fr 0; have f1 := HR_2.out.bx.fr 1; have f2 := HR_2.out.bx.fr 2; have f3 := HR_2.out.bx.fr 3; have f4 := HR_2.out.bx.fr 4; have f5 := HR_2.out.bx.fr 5; clear A2 F2) | fail))
    rename_i hold
    clear hold T0 T1
    obtain ⟨W7, hW7, Q7, g7⟩ := HR_2.out.bx.put ⟨k, o, r, b, g, u⟩
    simp only at hW7
    rw [hW7]
    clear hW7 q0 q1 q2 q3 q4 q5 f0 f1 f2 f3 f4 f5
    go_wp2
    obtain ⟨y0, y1, y2, y3, y4, y5, _, _⟩ := Q7
    simp only at y0 y1 y2 y3 y4 y5
    have E := (HW2.out.keep g7 HR_2.out.no (Nat.le_succ _) hw0).fin hw0 hlo
    unfold M.takF M.takS
    rw [if_pos he]
    exact bodyPost_ret (v := .tuple #[cv ⟨k, o, r, b, g, u⟩, .int .i64 0]) (by simp [results, Try.results62, go_sem, y0, y1, y2, y3, y4, y5]) rfl ⟨rfl, E.1, E.2⟩

theorem Cs.takeA {w0 w : World} {O : Nat → Prop} {p s t m : Nat} {S : St} {f : T9.Fo} (h : Cs w0 w O p s t m S f) (I : M.Inv S f) (a c k o r b g u e : Int) (ha : I64 a) (hc : I64 c) (hm : f.len ≤ 1000) (hC : M.srcC S (a, c) = ⟨k, o, r, b, g, u⟩) (he : M.srcE S (a, c) = e) :
    Calls Try.prog 62 #[.pointer (some ⟨p, 0, none⟩), sv a c] w fun x w' => x = .returned (.tuple #[cv ⟨k, o, r, b, g, u⟩, .int .i64 e]) ∧ Cs w0 w' (wide O w w') p s t m (M.takS S (a, c)) (M.takF S f (a, c)) ∧ Fr O w w' := by
  by_cases hn : e = 0
  · exact h.take_yes I a c k o r b g u e ha hc hm hC he hn
  · exact h.take_no I a c k o r b g u e ha hc hm hC he (by simpa using hn)

end Go.Proofs.Ytpfjcfgbecoccaa

/-
  THE CONTRACT of package moves' Rotate (written by mkact5.py).
-/
namespace Go.Proofs.Ytpfjcfgbecoccaa
set_option maxRecDepth 10000
open Go.RowKit
set_option linter.unusedVariables false

theorem seq_iff {a b c d : Int} : T9.M.seq a b c d = true ↔ ((a, b) : Int × Int) = (c, d) := by unfold T9.M.seq; simp
theorem seq_no {a b c d : Int} : T9.M.seq a b c d = false ↔ ((a, b) : Int × Int) ≠ (c, d) := by rw [Ne, ← seq_iff]; cases T9.M.seq a b c d <;> simp

end Go.Proofs.Ytpfjcfgbecoccaa

/-
  FOR THE LAWS: what is refused changes nothing; the tree's answers; lists that the parts do not have; slot, works' numbers.
-/
namespace Go.Proofs.Ytpfjcfgbecoccaa
set_option maxRecDepth 10000
open Go.RowKit
set_option linter.unusedVariables false

namespace Cs
theorem children {w0 w : World} {O : Nat → Prop} {p s t m : Nat} {S : St} {f : T9.Fo} (h : Cs w0 w O p s t m S f) (n i : Int) (hn : I64 n) (hi : I64 i) (hl : (f.children (n, i)).length ≤ 1000) :
    Calls Try.prog 49 #[.pointer (some ⟨t, 0, none⟩), sv n i] w fun e w' => ∃ v', e = .returned v' ∧ Lst w' w.heap.size v' (f.children (n, i)) ∧ w.grownBy w' none := by
  obtain ⟨OS, OT, h1, h2, _⟩ := h.ex
  exact T9.children_is h2 n i hn hi _ rfl hl
end Cs

namespace M
theorem pla_no {S : St} {f : T9.Fo} {a : Int × Int} {c : C} (h : plaE S a c ≠ 0) : plaS S a c = S ∧ plaF S f a c = f := by
  refine ⟨?_, by unfold plaF; rw [if_neg h]⟩
  unfold plaS putS; unfold plaE at h; rw [if_neg h]
theorem chi_no {S : St} {f : T9.Fo} {o a : Int × Int} {c : C} (h : chiE S o a c ≠ 0) : chiS S o a c = S ∧ chiF S f o a c = f := ⟨by unfold chiS; rw [if_neg h], by unfold chiF; rw [if_neg h]⟩
theorem min_no {S : St} {f : T9.Fo} {a b : Int × Int} {rt bd gd bt : Int} (h : minE S a b rt bd gd bt ≠ 0) : minS S a b rt bd gd bt = S ∧ minF S f a b rt bd gd bt = f := ⟨by unfold minS; rw [if_neg h], by unfold minF; rw [if_neg h]⟩
theorem cop_no {S : St} {f : T9.Fo} {a b : Int × Int} {rt : Int} (h : copE S a b rt ≠ 0) : copS S a b rt = S ∧ copF S f a b rt = f := min_no h
theorem mov_no {S : St} {f : T9.Fo} {a b : Int × Int} (h : endE S a b ≠ 0) : movS S a b = S ∧ movF S f a b = f := ⟨by unfold movS; rw [if_neg h], by unfold movF; rw [if_neg h]⟩
theorem mut_no {S : St} {f : T9.Fo} {a b : Int × Int} {gd bt : Int} (h : mutE S a b gd bt ≠ 0) : mutS S a b gd bt = S ∧ mutF S f a b gd bt = f := ⟨by unfold mutS; rw [if_neg h], by unfold mutF; rw [if_neg h]⟩
theorem rot_no {S : St} {f : T9.Fo} {d p a : Int × Int} (h : rotE S d p a ≠ 0) : rotS S d p a = S ∧ rotF S f d p a = f := ⟨by unfold rotS; rw [if_neg h], by unfold rotF; rw [if_neg h]⟩
end M

/-- A list that the parts do not have. -/
structure LB (wc : World) (Oc : Nat → Prop) (v : Value) (L : List (Int × Int)) : Prop where
  ls : Lst wc 0 v L
  no : ∀ g, v.ownBlock = some g → ¬ Oc g
theorem LB.kept {wc wd : World} {Oc : Nat → Prop} {v : Value} {L : List (Int × Int)} (h : LB wc Oc v L) (g : wc.grownBy wd none) : LB wd Oc v L := ⟨h.ls.kept g, h.no⟩
theorem LB.call {wc wd : World} {Oc : Nat → Prop} {v : Value} {L : List (Int × Int)} (h : LB wc Oc v L) (F : Fr Oc wc wd) : LB wd (wide Oc wc wd) v L :=
  ⟨h.ls.fr F h.no, fun g hg e => by
    rcases e with e | e
    · exact h.no g hg e
    · have := (h.ls.lt g hg).2; omega⟩
theorem LB.new {w0 wc wd : World} {Oc : Nat → Prop} {p s t m : Nat} {S : St} {f : T9.Fo} {v : Value} {L : List (Int × Int)} (h : Cs w0 wc Oc p s t m S f) (l : Lst wd wc.heap.size v L) : LB wd Oc v L :=
  ⟨l.zero, fun g hg e => by have := (h.lo g e).2; have := (l.lt g hg).1; omega⟩

theorem Ptr.kept {w w' : World} {p j q : Nat} (h : Ptr w p j q) (g : w.grownBy w' none) : Ptr w' p j q := g.cell h (by simp)

/-! ### The numbers of works -/
namespace Wk
def c0 : C := ⟨4, 4, 7, 0, 0, 0⟩
def S0 : St := fun _ => none
def S1 : St := M.addS S0 0 3
def S2 : St := M.plaS S1 (0, 0) c0
def f2 : T9.Fo := M.plaF S1 .nil (0, 0) c0
def S3 : St := M.minS S2 (0, 0) (0, 1) 1 7 0 0
def f3 : T9.Fo := M.minF S2 f2 (0, 0) (0, 1) 1 7 0 0
def S4 : St := M.copS S3 (0, 1) (0, 2) 7
def f4 : T9.Fo := M.copF S3 f3 (0, 1) (0, 2) 7
def S5 : St := M.movS S4 (0, 0) (0, 3)
def f5 : T9.Fo := M.movF S4 f4 (0, 0) (0, 3)
theorem I1 : M.Inv S1 .nil := M.Inv.same M.Inv.none (fun x => M.gc_add _ _ _ x)
theorem I2 : M.Inv S2 f2 := I1.pla (0, 0) (by decide) (by decide)
theorem I3 : M.Inv S3 f3 := I2.min (0, 0) (0, 1) (by decide) (by decide)
theorem I4 : M.Inv S4 f4 := I3.cop (0, 1) (0, 2) 7
theorem I5 : M.Inv S5 f5 := I4.mov (0, 0) (0, 3)
theorem e1 : M.addE S0 0 3 = 0 := by decide +kernel
theorem e2 : M.plaE S1 (0, 0) ⟨4, 4, 7, 0, 0, 0⟩ = 0 := by decide +kernel
theorem e3 : M.minE S2 (0, 0) (0, 1) 1 7 0 0 = 0 := by decide +kernel
theorem e4 : M.copE S3 (0, 1) (0, 2) 7 = 0 := by decide +kernel
theorem e5 : M.endE S4 (0, 0) (0, 3) = 0 := by decide +kernel
theorem k4 : f4.kin (0, 0) = [(0, 1), (0, 2)] := by decide +kernel
theorem k5 : f5.kin (0, 3) = [(0, 1), (0, 2)] := by decide +kernel
theorem x5 : M.getC S5 0 2 = ⟨4, 4, 1, 7, 0, 0⟩ := by kernel_rfl
theorem y5 : M.getE S5 0 2 = 0 := by decide +kernel
theorem e6 : M.copE S5 (0, 0) (0, 4) 7 = 3 := by decide +kernel
theorem e7 : M.copE S5 (0, 1) (0, 2) 7 = 4 := by decide +kernel
theorem e8 : M.rotE S5 (0, 1) (0, 1) (0, 2) = 10 := by decide +kernel
theorem l1 : T9.Fo.len T9.Fo.nil ≤ 1000 := by decide +kernel
theorem l2 : f2.len ≤ 1000 := by decide +kernel
theorem l3 : f3.len ≤ 1000 := by decide +kernel
theorem l4 : f4.len ≤ 1000 := by decide +kernel
theorem l5 : f5.len ≤ 1000 := by decide +kernel
theorem n6 : M.copS S5 (0, 0) (0, 4) 7 = S5 ∧ M.copF S5 f5 (0, 0) (0, 4) 7 = f5 := M.cop_no (by rw [e6]; decide)
theorem n7 : M.copS S5 (0, 1) (0, 2) 7 = S5 ∧ M.copF S5 f5 (0, 1) (0, 2) 7 = f5 := M.cop_no (by rw [e7]; decide)
end Wk
theorem i64s (n : Int) (h : -1000 ≤ n) (k : n ≤ 1000) : I64 n := i64_of (by omega) (by omega)
end Go.Proofs.Ytpfjcfgbecoccaa

/-
  WHAT COMES OF A CAPABILITY IS WEAKER, PLAINLY; and how long the tree is. Speaks of no function of the program.
-/
namespace Go.Proofs.Ytpfjcfgbecoccaa
set_option maxRecDepth 10000
set_option linter.unusedVariables false

namespace M
open T9 (Fo)
/-- Each slot's capability is weaker than that of what it comes of. -/
def Wkf (g : Int × Int → C) : Option C → Fo → Prop
  | _, Deep.BT.nil => True
  | p, Deep.BT.node bb oo a d r => (∀ c, p = some c → wkr (g a) c = true) ∧ Wkf g (some (g a)) d ∧ Wkf g p r

theorem Wkf.congr {g g' : Int × Int → C} {p : Option C} {f : Fo} (h : ∀ x ∈ f.pre, g' x = g x) (k : Wkf g p f) : Wkf g' p f := by
  induction f using T9.Fo.ind generalizing p with
  | nil => trivial
  | node bb oo a d r ihd ihr =>
    obtain ⟨k1, k2, k3⟩ := k
    have ha : g' a = g a := h a (by simp [T9.Fo.pre])
    refine ⟨fun c hc => by rw [ha]; exact k1 c hc, ?_, ?_⟩
    · rw [ha]; exact ihd (fun x hx => h x (by simp [T9.Fo.pre, hx])) k2
    · exact ihr (fun x hx => h x (by simp [T9.Fo.pre, hx])) k3
theorem Wkf.app {g : Int × Int → C} {p : Option C} {f h : Fo} (k : Wkf g p f) (l : Wkf g p h) : Wkf g p (T9.Fo.app f h) := by
  induction f using T9.Fo.ind with
  | nil => exact l
  | node bb oo a d r ihd ihr =>
    obtain ⟨k1, k2, k3⟩ := k
    exact ⟨k1, k2, ihr k3⟩
theorem Wkf.up {g : Int × Int → C} {c : C} {p : Option C} {f : Fo} (k : Wkf g (some c) f) (h : ∀ c', p = some c' → wkr c c' = true) : Wkf g p f := by
  induction f using T9.Fo.ind with
  | nil => trivial
  | node bb oo a d r ihd ihr =>
    obtain ⟨k1, k2, k3⟩ := k
    exact ⟨fun c' hc' => wkr_trans (k1 c rfl) (h c' hc'), k2, ihr k3⟩
theorem Wkf.drop {g : Int × Int → C} {p : Option C} {f : Fo} (s : Int × Int) (k : Wkf g p f) : Wkf g p (T9.Fo.drop s f) := by
  induction f using T9.Fo.ind generalizing p with
  | nil => trivial
  | node bb oo a d r ihd ihr =>
    obtain ⟨k1, k2, k3⟩ := k
    simp only [T9.Fo.drop]
    split
    · exact (k2.up k1).app k3
    · exact ⟨k1, ihd k2, ihr k3⟩
theorem Wkf.add {g : Int × Int → C} {p : Option C} {f : Fo} {o s : Int × Int} (k : Wkf g p f) (h : wkr (g s) (g o) = true) : Wkf g p (T9.Fo.add o s f) := by
  induction f using T9.Fo.ind generalizing p with
  | nil => trivial
  | node bb oo a d r ihd ihr =>
    obtain ⟨k1, k2, k3⟩ := k
    simp only [T9.Fo.add]
    split
    · rename_i e
      exact ⟨k1, k2.app ⟨fun c hc => by cases hc; rw [e]; exact h, trivial, trivial⟩, k3⟩
    · exact ⟨k1, ihd k2, ihr k3⟩
theorem Wkf.mv {g g' : Int × Int → C} {p : Option C} {f : Fo} {a b : Int × Int} (h : ∀ x ∈ f.pre, g' (T9.Fo.ren a b x) = g x) (k : Wkf g p f) : Wkf g' p (T9.Fo.mv a b f) := by
  induction f using T9.Fo.ind generalizing p with
  | nil => trivial
  | node bb oo x d r ihd ihr =>
    obtain ⟨k1, k2, k3⟩ := k
    have hx : g' (T9.Fo.ren a b x) = g x := h x (by simp [T9.Fo.pre])
    unfold T9.Fo.ren at hx
    simp only [T9.Fo.mv]
    refine ⟨fun c hc => by rw [hx]; exact k1 c hc, ?_, ?_⟩
    · rw [hx]; exact ihd (fun y hy => h y (by simp [T9.Fo.pre, hy])) k2
    · exact ihr (fun y hy => h y (by simp [T9.Fo.pre, hy])) k3
theorem Wkf.kin {g : Int × Int → C} {p : Option C} {f d : Fo} {x : Int × Int} (k : Wkf g p f) (h : f.sub x = some d) : Wkf g (some (g x)) d := by
  induction f using T9.Fo.ind generalizing p with
  | nil => cases h
  | node bb oo a e r ihe ihr =>
    obtain ⟨k1, k2, k3⟩ := k
    simp only [T9.Fo.sub] at h
    split at h
    · rename_i ea; cases h; rw [← ea]; exact k2
    · cases he : e.sub x with
      | some e' => rw [he] at h; simp at h; subst h; exact ihe k2 he
      | none => rw [he] at h; simp at h; exact ihr k3 h
theorem Wkf.all {g : Int × Int → C} {c : C} {f : Fo} (k : Wkf g (some c) f) : ∀ y ∈ f.pre, wkr (g y) c = true := by
  induction f using T9.Fo.ind generalizing c with
  | nil => intro y hy; cases hy
  | node bb oo a d r ihd ihr =>
    obtain ⟨k1, k2, k3⟩ := k
    intro y hy
    simp only [T9.Fo.pre, List.mem_cons, List.mem_append] at hy
    rcases hy with rfl | hy | hy
    · exact k1 c rfl
    · exact wkr_trans (ihd k2 y hy) (k1 c rfl)
    · exact ihr k3 y hy
/-- All kin are weaker. -/
theorem Wkf.kins {g : Int × Int → C} {f : Fo} (k : Wkf g none f) (x y : Int × Int) (h : y ∈ f.kin x) : wkr (g y) (g x) = true := by
  unfold T9.Fo.kin at h
  cases hs : f.sub x with
  | none => rw [hs] at h; cases h
  | some d => rw [hs] at h; exact (k.kin hs).all y h

abbrev Wks (S : St) (f : Fo) : Prop := Wkf (gc S) none f
theorem Wks.start : Wks (fun _ => none) .nil := trivial
theorem Wks.pla {S : St} {f : Fo} (k : Wks S f) (I : Inv S f) (a : Int × Int) (c : C) : Wks (plaS S a c) (plaF S f a c) := by
  by_cases h : plaE S a c = 0
  · obtain ⟨h1, h2, h3, h4⟩ := putE_ok h
    unfold plaF plaS
    rw [if_pos h, putS_up h]
    unfold T9.Fo.rootF
    rw [I.hasnt h4, if_neg (by simp)]
    refine Wkf.app (k.congr fun x hx => ?_) ⟨fun c hc => (nomatch hc), trivial, trivial⟩
    have xa : x ≠ a := fun e => (I.inv x).1 hx (by rw [e]; exact h4)
    rw [gc_up c h1, if_neg xa]
  · obtain ⟨e1, e2⟩ := pla_no (f := f) h; rw [e1, e2]; exact k
theorem Wks.min {S : St} {f : Fo} (k : Wks S f) (I : Inv S f) (a b : Int × Int) {rt bd gd bt : Int} (hbd : 0 ≤ bd) (hgd : 0 ≤ gd) : Wks (minS S a b rt bd gd bt) (minF S f a b rt bd gd bt) := by
  by_cases h : minE S a b rt bd gd bt = 0
  · obtain ⟨he, d, hd, hk, hb, hg, hw⟩ := min_d I hbd hgd h
    obtain ⟨h1, h2⟩ := endE_ok he
    unfold minF minS
    rw [if_pos h, if_pos h, hd]
    unfold T9.Fo.childF
    rw [I.has (srcE_ok h1).2, I.hasnt (plcE_ok h2).2, if_pos rfl, if_neg (by simp)]
    have hne := end_ne he
    refine Wkf.add (k.congr fun x hx => ?_) ?_
    · have xb : x ≠ b := fun e => (I.inv x).1 hx (by rw [e]; exact (plcE_ok h2).2)
      rw [gc_up _ (plcE_ok h2).1, if_neg xb]
    · rw [gc_up _ (plcE_ok h2).1, gc_up _ (plcE_ok h2).1, if_pos rfl, if_neg hne]; exact hw
  · obtain ⟨e1, e2⟩ := min_no (f := f) h; rw [e1, e2]; exact k
theorem Wks.cop {S : St} {f : Fo} (k : Wks S f) (I : Inv S f) (a b : Int × Int) (rt : Int) : Wks (copS S a b rt) (copF S f a b rt) := k.min I a b (Int.le_refl 0) (I.nn a).2
theorem Wks.mov {S : St} {f : Fo} (k : Wks S f) (I : Inv S f) (a b : Int × Int) : Wks (movS S a b) (movF S f a b) := by
  by_cases h : endE S a b = 0
  · obtain ⟨h1, h2⟩ := endE_ok h
    have ha := (I.inv a).2 (srcE_ok h1).2
    have hb : b ∉ f.pre := fun e => (I.inv b).1 e (plcE_ok h2).2
    unfold movF movS
    rw [if_pos h, if_pos h, moveF_yes ha hb]
    refine k.mv fun x hx => ?_
    rw [gc_car h]
    unfold T9.Fo.ren
    by_cases e : x = a
    · rw [if_pos e, if_pos rfl, e]
    · have xb : x ≠ b := fun e' => hb (e' ▸ hx)
      rw [if_neg e, if_neg xb, if_neg e]
  · obtain ⟨e1, e2⟩ := mov_no (f := f) h; rw [e1, e2]; exact k
theorem Wks.rot {S : St} {f : Fo} (k : Wks S f) (I : Inv S f) (G : Good S) (d p a : Int × Int) : Wks (rotS S d p a) (rotF S f d p a) := by
  by_cases h : rotE S d p a = 0
  · have T := turn_of I G h
    obtain ⟨n1, n2, h1, h2, h3⟩ := rot_ok h
    have pin := (I.inv p).2 (srcE_ok h1).2
    have ain := (I.inv a).2 (srcE_ok h2).2
    have sout : aside ∉ f.pre := fun e => by
      have := th_range G (gc_th ((I.inv aside).1 e))
      simp at this
    unfold rotF rotS
    rw [if_pos h, if_pos h, T.f1, T.f2, T.f3]
    have pa : p ≠ aside := fun e => sout (e ▸ pin)
    have aa : a ≠ aside := fun e => sout (e ▸ ain)
    have k1 : Wkf (fun x => if x = aside then gc S p else gc S x) none (T9.Fo.mv p aside f) := k.mv fun x hx => by
      unfold T9.Fo.ren
      by_cases e : x = p
      · rw [if_pos e, if_pos rfl, e]
      · have xs : x ≠ aside := fun e' => sout (e' ▸ hx)
        rw [if_neg e, if_neg xs]
    have k2 : Wkf (fun x => if x = p then gc S a else if x = aside then gc S p else gc S x) none (T9.Fo.mv a p (T9.Fo.mv p aside f)) := k1.mv fun x hx => by
      have m1 := (mem_mv pin).1 hx
      unfold T9.Fo.ren
      by_cases e : x = a
      · rw [if_pos e, if_pos rfl, e, if_neg aa]
      · have xp : x ≠ p := fun e' => by
          rcases m1 with e1 | e1
          · exact pa (e'.symm.trans e1)
          · exact e1.2 e'
        rw [if_neg e, if_neg xp]
    refine k2.mv fun x hx => ?_
    have a1 : a ∈ (T9.Fo.mv p aside f).pre := (mem_mv pin).2 (.inr ⟨ain, Ne.symm n2⟩)
    have m2 := (mem_mv a1).1 hx
    rw [mem_mv pin] at m2
    unfold T9.Fo.ren
    rw [T.gcs]
    by_cases e : x = aside
    · rw [if_pos e, if_neg (Ne.symm n1), if_pos rfl, e, if_neg (Ne.symm pa), if_pos rfl]
    · rw [if_neg e]
      by_cases xp : x = p
      · rw [if_pos xp, if_pos xp]
      · rw [if_neg xp, if_neg xp, if_neg e]
        rcases m2 with e1 | ⟨e1 | e1, e2⟩
        · exact absurd e1 xp
        · exact absurd e1 e
        · have xd : x ≠ d := fun e' => by
            rcases h3 with h3 | h3
            · exact e2 (e'.trans h3)
            · exact (I.inv x).1 e1.1 (e' ▸ (plcE_ok h3).2)
          rw [if_neg xd, if_neg e2]
  · obtain ⟨e1, e2⟩ := rot_no (f := f) h; rw [e1, e2]; exact k
theorem Wks.tak {S : St} {f : Fo} (k : Wks S f) (I : Inv S f) (N : T9.Good f) (a : Int × Int) : Wks (takS S a) (takF S f a) := by
  unfold takS takF
  by_cases h : srcE S a = 0
  · rw [if_pos h, takeS_up h, (tak_ok I h).2]
    refine (k.drop a).congr fun x hx => ?_
    rw [T9.Fo.pre_drop N.nd, List.mem_filter] at hx
    rw [gc_up _ (srcE_ok h).1, if_neg (by simpa using hx.2)]
  · unfold takeS
    unfold srcE at h ⊢
    rw [if_neg h, if_neg h]; exact k

/-! ### How long -/
theorem len_root (f : Fo) (a : Int × Int) : (f.rootF a).len ≤ f.len + 1 := by
  unfold T9.Fo.rootF T9.Fo.len
  split
  · omega
  · rw [T9.Fo.pre_app, T9.Fo.pre_one]; simp
theorem len_childF {f : Fo} (N : T9.Good f) (o a : Int × Int) : (f.childF o a).len ≤ f.len + 1 := by
  unfold T9.Fo.childF T9.Fo.len
  split
  · rename_i h
    split
    · omega
    · rw [T9.Fo.len_add N.nd (T9.Fo.has_iff.1 h)]; omega
  · omega
theorem len_moveF (f : Fo) (a b : Int × Int) : (f.moveF a b).len ≤ f.len := by
  unfold T9.Fo.moveF T9.Fo.len
  split
  · split
    · omega
    · rw [T9.Fo.pre_mv, List.length_map]; omega
  · omega
theorem len_dropF {f : Fo} (N : T9.Good f) (a : Int × Int) : (f.dropF a).len ≤ f.len := by
  unfold T9.Fo.dropF T9.Fo.len
  split
  · rw [T9.Fo.pre_drop N.nd]; exact List.length_filter_le _ _
  · omega
theorem sub_len {f d : Fo} {x : Int × Int} (h : f.sub x = some d) : d.pre.length ≤ f.pre.length := by
  induction f using T9.Fo.ind with
  | nil => cases h
  | node bb oo a e r ihe ihr =>
    simp only [T9.Fo.sub] at h
    simp only [T9.Fo.pre, List.length_cons, List.length_append]
    split at h
    · cases h; omega
    · cases he : e.sub x with
      | some e' => rw [he] at h; simp at h; subst h; have := ihe he; omega
      | none => rw [he] at h; simp at h; have := ihr h; omega
theorem kin_len (f : Fo) (x : Int × Int) : (f.kin x).length ≤ f.len := by
  unfold T9.Fo.kin T9.Fo.len
  cases h : f.sub x with
  | none => simp
  | some d => exact sub_len h
theorem tops_len (f : Fo) : f.tops.length ≤ f.pre.length := by
  induction f using T9.Fo.ind with
  | nil => simp [T9.Fo.tops]
  | node bb oo a d r ihd ihr => simp only [T9.Fo.tops, T9.Fo.pre, List.length_cons, List.length_append]; omega
theorem children_len (f : Fo) (x : Int × Int) : (f.children x).length ≤ f.len := by
  unfold T9.Fo.children T9.Fo.len
  cases h : f.sub x with
  | none => simp
  | some d => exact Nat.le_trans (tops_len d) (sub_len h)
theorem full_len (S : St) : (full S).length ≤ 1024 := fullTo_len S 64
theorem len_pla (S : St) (f : Fo) (a : Int × Int) (c : C) : (plaF S f a c).len ≤ f.len + 1 := by
  unfold plaF; split
  · exact len_root f a
  · omega
theorem len_chi (S : St) {f : Fo} (N : T9.Good f) (o a : Int × Int) (c : C) : (chiF S f o a c).len ≤ f.len + 1 := by
  unfold chiF; split
  · exact len_childF N o a
  · omega
theorem len_min (S : St) {f : Fo} (N : T9.Good f) (a b : Int × Int) (rt bd gd bt : Int) : (minF S f a b rt bd gd bt).len ≤ f.len + 1 := by
  unfold minF; split
  · exact len_childF N a b
  · omega
theorem len_cop (S : St) {f : Fo} (N : T9.Good f) (a b : Int × Int) (rt : Int) : (copF S f a b rt).len ≤ f.len + 1 := len_min S N a b _ _ _ _
theorem len_mov (S : St) (f : Fo) (a b : Int × Int) : (movF S f a b).len ≤ f.len + 1 := by
  unfold movF; split
  · have := len_moveF f a b; omega
  · omega
theorem len_mut (S : St) (f : Fo) (a b : Int × Int) (gd bt : Int) : (mutF S f a b gd bt).len ≤ f.len + 1 := by
  unfold mutF; split
  · have := len_moveF f a b; omega
  · omega
theorem len_rot (S : St) (f : Fo) (d p a : Int × Int) : (rotF S f d p a).len ≤ f.len + 1 := by
  unfold rotF; split
  · have h1 := len_moveF f p aside
    have h2 := len_moveF (f.moveF p aside) a p
    have h3 := len_moveF ((f.moveF p aside).moveF a p) aside d
    omega
  · omega
theorem len_tak (S : St) {f : Fo} (N : T9.Good f) (a : Int × Int) : (takF S f a).len ≤ f.len + 1 := by
  unfold takF; split
  · have := len_dropF N a; omega
  · omega
end M
end Go.Proofs.Ytpfjcfgbecoccaa
