/-
  THE CONTRACTS of package slots: Get, Take.
-/
import Derived.Test.YtdnoidnpiaadaaaGreatG2
import Derived.Test.YtdnoidnpiaadaaaGreatG1
import Derived.Deep.LoopGhost
namespace Go.Proofs.YtdnoidnpiaadaaaGreat
set_option maxRecDepth 10000
open Go.RowKit
set_option linter.unusedVariables false

/-- A slot's name and an empty capability, laid. -/
theorem slotZero (w : World) (n i : Int) : ∃ W, (w.alloc (.cells #[.int .i64 n, .int .i64 i] 31)).alloc (.cells #[.int .i64 0, .int .i64 0, .int .i64 0, .int .u64 0, .int .u64 0, .int .i64 0] 25) = W ∧
    SBox W w.heap.size n i ∧ Box W (w.heap.size + 1) C.zero ∧ w.grownBy W none := twoNew w n i C.zero

set_option maxHeartbeats 1000000 in
theorem get_no (w : World) (p : Nat) (n i : Int) (HF : gFind w p n i (.pointer none)) :
    Calls Tryz.prog 51 #[.pointer (some ⟨p, 0, none⟩), sv n i] w fun e w' => e = .returned (.tuple #[cv C.zero, .int .i64 6]) ∧ w.grownBy w' none := by
  go_enter Tryz.func51, Tryz.ntmps51
  go_upto_region 1 with fail
  obtain ⟨W, hW, X, Y, g0⟩ := slotZero w n i
  rw [hW]
  clear hW
  have x0 := X.at0
  have x1 := X.at1
  go_wp2_with fail
  refine (HF _ g0).mono ?_
  rintro _ w1 ⟨rfl, g1⟩
  have Y1 := Y.kept g1
  obtain ⟨y0, y1, y2, y3, y4, y5, yl, yf⟩ := id Y1
  have f0 := yf 0
  have f1 := yf 1
  have f2 := yf 2
  have f3 := yf 3
  have f4 := yf 4
  have f5 := yf 5
  clear x0 x1
  go_wp2
  obtain ⟨W2, hW2, Y2, g2⟩ := Y1.put C.zero
  simp only at hW2
  rw [hW2]
  clear hW2 y0 y1 y2 y3 y4 y5 f0 f1 f2 f3 f4 f5
  obtain ⟨y0, y1, y2, y3, y4, y5, _, _⟩ := Y2
  exact bodyPost_ret (v := .tuple #[cv C.zero, .int .i64 6]) (by simp [results, Tryz.results51, go_sem, y0, y1, y2, y3, y4, y5]) rfl ⟨rfl, gbNew (gbTrans (gbAny (gbTrans g0 g1) _) g2) (Nat.le_succ _)⟩

set_option maxHeartbeats 1000000 in
theorem get_yes (w : World) (p q a : Nat) (n i k o r b g t : Int) (HF : gFind w p n i (.pointer (some ⟨q, a, none⟩))) (Z : Cell6 w q a ⟨k, o, r, b, g, t⟩) :
    Calls Tryz.prog 51 #[.pointer (some ⟨p, 0, none⟩), sv n i] w fun e w' => e = .returned (.tuple #[cv ⟨k, o, r, b, g, t⟩, .int .i64 0]) ∧ w.grownBy w' none := by
  go_enter Tryz.func51, Tryz.ntmps51
  go_upto_region 1 with fail
  obtain ⟨W, hW, X, Y, g0⟩ := slotZero w n i
  rw [hW]
  clear hW
  have x0 := X.at0
  have x1 := X.at1
  go_wp2_with fail
  refine (HF _ g0).mono ?_
  rintro _ w1 ⟨rfl, g1⟩
  have Y1 := Y.kept g1
  obtain ⟨y0, y1, y2, y3, y4, y5, yl, yf⟩ := id Y1
  have f0 := yf 0
  have f1 := yf 1
  have f2 := yf 2
  have f3 := yf 3
  have f4 := yf 4
  have f5 := yf 5
  clear x0 x1
  obtain ⟨z0, z1, z2, z3, z4, z5, zf⟩ := Z.kept (gbTrans g0 g1)
  go_wp2
  obtain ⟨W2, hW2, Y2, g2⟩ := Y1.put ⟨k, o, r, b, g, t⟩
  simp only at hW2
  rw [hW2]
  clear hW2 y0 y1 y2 y3 y4 y5 f0 f1 f2 f3 f4 f5
  obtain ⟨y0, y1, y2, y3, y4, y5, _, _⟩ := Y2
  exact bodyPost_ret (v := .tuple #[cv ⟨k, o, r, b, g, t⟩, .int .i64 0]) (by simp [results, Tryz.results51, go_sem, y0, y1, y2, y3, y4, y5]) rfl ⟨rfl, gbNew (gbTrans (gbAny (gbTrans g0 g1) _) g2) (Nat.le_succ _)⟩

set_option maxHeartbeats 1000000 in
theorem take_no (w : World) (p : Nat) (n i : Int) (HF : gFind w p n i (.pointer none)) :
    Calls Tryz.prog 95 #[.pointer (some ⟨p, 0, none⟩), sv n i] w fun e w' => e = .returned (.tuple #[cv C.zero, .int .i64 6]) ∧ w.grownBy w' none := by
  go_enter Tryz.func95, Tryz.ntmps95
  go_upto_region 1 with fail
  obtain ⟨W, hW, X, Y, g0⟩ := slotZero w n i
  rw [hW]
  clear hW
  have x0 := X.at0
  have x1 := X.at1
  go_wp2_with fail
  refine (HF _ g0).mono ?_
  rintro _ w1 ⟨rfl, g1⟩
  have Y1 := Y.kept g1
  obtain ⟨y0, y1, y2, y3, y4, y5, yl, yf⟩ := id Y1
  have f0 := yf 0
  have f1 := yf 1
  have f2 := yf 2
  have f3 := yf 3
  have f4 := yf 4
  have f5 := yf 5
  clear x0 x1
  go_wp2
  obtain ⟨W2, hW2, Y2, g2⟩ := Y1.put C.zero
  simp only at hW2
  rw [hW2]
  clear hW2 y0 y1 y2 y3 y4 y5 f0 f1 f2 f3 f4 f5
  obtain ⟨y0, y1, y2, y3, y4, y5, _, _⟩ := Y2
  exact bodyPost_ret (v := .tuple #[cv C.zero, .int .i64 6]) (by simp [results, Tryz.results95, go_sem, y0, y1, y2, y3, y4, y5]) rfl ⟨rfl, gbNew (gbTrans (gbAny (gbTrans g0 g1) _) g2) (Nat.le_succ _)⟩

set_option maxHeartbeats 1000000 in
theorem take_null (w : World) (p q a : Nat) (n i k o r b g t : Int) (HF : gFind w p n i (.pointer (some ⟨q, a, none⟩))) (Z : Cell6 w q a ⟨k, o, r, b, g, t⟩) (hk : (k == 0) = true) :
    Calls Tryz.prog 95 #[.pointer (some ⟨p, 0, none⟩), sv n i] w fun e w' => e = .returned (.tuple #[cv C.zero, .int .i64 3]) ∧ w.grownBy w' none := by
  have HE := fun w => empty_is k o r b g t true hk w
  clear hk
  go_enter Tryz.func95, Tryz.ntmps95
  go_upto_region 1 with fail
  obtain ⟨W, hW, X, Y, g0⟩ := slotZero w n i
  rw [hW]
  clear hW
  have x0 := X.at0
  have x1 := X.at1
  go_wp2_with fail
  refine (HF _ g0).mono ?_
  rintro _ w1 ⟨rfl, g1⟩
  clear x0 x1
  obtain ⟨z0, z1, z2, z3, z4, z5, zf⟩ := Z.kept (gbTrans g0 g1)
  go_wp2_with fail
  refine (HE _).mono ?_
  rintro _ w2 ⟨rfl, g2⟩
  clear z0 z1 z2 z3 z4 z5 zf
  have Y1 := Y.kept (gbTrans g1 g2)
  obtain ⟨y0, y1, y2, y3, y4, y5, yl, yf⟩ := id Y1
  have f0 := yf 0
  have f1 := yf 1
  have f2 := yf 2
  have f3 := yf 3
  have f4 := yf 4
  have f5 := yf 5
  go_wp2
  obtain ⟨W2, hW2, Y2, g3⟩ := Y1.put C.zero
  simp only at hW2
  rw [hW2]
  clear hW2 y0 y1 y2 y3 y4 y5 f0 f1 f2 f3 f4 f5
  obtain ⟨y0, y1, y2, y3, y4, y5, _, _⟩ := Y2
  exact bodyPost_ret (v := .tuple #[cv C.zero, .int .i64 3]) (by simp [results, Tryz.results95, go_sem, y0, y1, y2, y3, y4, y5]) rfl ⟨rfl, gbNew (gbTrans (gbAny (gbTrans g0 (gbTrans g1 g2)) _) g3) (Nat.le_succ _)⟩

/-- A slot has become empty; a new block was written behind that. -/
def Took (w w' : World) (q a : Nat) : Prop := ∃ W W', w.grownBy W none ∧ Put6 W W' q a C.zero ∧ ∃ x, w.heap.size ≤ x ∧ W'.grownBy w' (some x)

set_option maxHeartbeats 1000000 in
theorem take_yes (w : World) (p q a : Nat) (n i k o r b g t : Int) (HF : gFind w p n i (.pointer (some ⟨q, a, none⟩))) (Z : Cell6 w q a ⟨k, o, r, b, g, t⟩) (hk : (k == 0) = false) :
    Calls Tryz.prog 95 #[.pointer (some ⟨p, 0, none⟩), sv n i] w fun e w' => e = .returned (.tuple #[cv ⟨k, o, r, b, g, t⟩, .int .i64 0]) ∧ Took w w' q a := by
  have HE := fun w => empty_is k o r b g t false hk w
  clear hk
  go_enter Tryz.func95, Tryz.ntmps95
  go_upto_region 1 with fail
  obtain ⟨W, hW, X, Y, g0⟩ := slotZero w n i
  rw [hW]
  clear hW
  have x0 := X.at0
  have x1 := X.at1
  have hqw : q < w.heap.size := World.block_lt_of_cell? w _ Z.at0
  go_wp2_with fail
  refine (HF _ g0).mono ?_
  rintro _ w1 ⟨rfl, g1⟩
  clear x0 x1
  obtain ⟨z0, z1, z2, z3, z4, z5, zf⟩ := Z.kept (gbTrans g0 g1)
  go_wp2_with fail
  refine (HE _).mono ?_
  rintro _ w2 ⟨rfl, g2⟩
  clear z0 z1 z2 z3 z4 z5 zf
  have G2 := gbTrans g0 (gbTrans g1 g2)
  have Z2 := Z.kept G2
  obtain ⟨z0, z1, z2, z3, z4, z5, zf⟩ := id Z2
  go_upto_region 7 with fail
  obtain ⟨W3, hW3, V, g3⟩ := boxNew w2 ⟨k, o, r, b, g, t⟩
  simp only at hW3
  rw [hW3]
  clear hW3 z0 z1 z2 z3 z4 z5 zf
  have G3 := gbTrans G2 g3
  have Z3 := Z2.kept g3
  obtain ⟨z0, z1, z2, z3, z4, z5, zf⟩ := id Z3
  have f0 := zf a
  have f1 := zf (a + 1)
  have f2 := zf (a + 2)
  have f3 := zf (a + 3)
  have f4 := zf (a + 4)
  have f5 := zf (a + 5)
  go_upto_region 8 with fail
  obtain ⟨W4, hP, g4⟩ := Put6.mk W3 q a C.zero
  have hW4 := hP
  unfold Put6 at hW4
  simp only at hW4
  rw [hW4]
  clear hW4 z0 z1 z2 z3 z4 z5 zf f0 f1 f2 f3 f4 f5
  have Y1 := ((Y.kept (gbTrans g1 g2)).kept g3).keep g4 (by simp; omega)
  have V1 := V.keep g4 (by simp; have := G2.size; omega)
  obtain ⟨v0, v1, v2, v3, v4, v5, vl, vf⟩ := id V1
  obtain ⟨y0, y1, y2, y3, y4, y5, yl, yf⟩ := id Y1
  have f0 := yf 0
  have f1 := yf 1
  have f2 := yf 2
  have f3 := yf 3
  have f4 := yf 4
  have f5 := yf 5
  go_wp2
  obtain ⟨W5, hW5, Y2, g5⟩ := Y1.put ⟨k, o, r, b, g, t⟩
  simp only at hW5
  rw [hW5]
  clear hW5 y0 y1 y2 y3 y4 y5 f0 f1 f2 f3 f4 f5
  obtain ⟨y0, y1, y2, y3, y4, y5, _, _⟩ := Y2
  exact bodyPost_ret (v := .tuple #[cv ⟨k, o, r, b, g, t⟩, .int .i64 0]) (by simp [results, Tryz.results95, go_sem, y0, y1, y2, y3, y4, y5]) rfl ⟨rfl, W3, W4, G3, hP, _, Nat.le_succ _, g5⟩

/-! ### In the chapter's words -/
namespace M
/-- What lies in a slot; the empty one where there is none. -/
def getC (S : St) (n i : Int) : C := match S n with
  | none => C.zero
  | some d => if there S n i then d.f i.toNat else C.zero
def getE (S : St) (n i : Int) : Int := if there S n i then 0 else 6
/-- A slot written over. -/
def upd (S : St) (n i : Int) (c : C) : St := fun id => if id = n then (S n).map (fun d => d.set i.toNat c) else S id
def putE (S : St) (n i : Int) (c : C) : Int := if there S n i then (if chk c = 0 then (if c.k = 0 then 3 else if (getC S n i).k = 0 then 0 else 4) else chk c) else 6
def putS (S : St) (n i : Int) (c : C) : St := if putE S n i c = 0 then upd S n i c else S
def takeE (S : St) (n i : Int) : Int := if there S n i then (if (getC S n i).k = 0 then 3 else 0) else 6
def takeC (S : St) (n i : Int) : C := if takeE S n i = 0 then getC S n i else C.zero
def takeS (S : St) (n i : Int) : St := if takeE S n i = 0 then upd S n i C.zero else S

theorem getC_at {S : St} {n : Int} {d : Nd} {j : Nat} (hs : S n = some d) (hj : j < 2 ^ d.r) : getC S n j = d.f j := by
  unfold getC
  rw [hs, there_at hs hj]
  simp
theorem getC_no {S : St} {n i : Int} (h : there S n i = false) : getC S n i = C.zero := by
  unfold getC
  rw [h]
  cases S n <;> rfl
end M

theorem Nd.set_at (d : Nd) (i : Nat) (c : C) (j : Nat) : (d.set i c).f j = if j = i then c else d.f j := rfl
theorem Nd.set_r (d : Nd) (i : Nat) (c : C) : (d.set i c).r = d.r := rfl

theorem Good.upd {S : St} (G : Good S) {n i : Int} {c : C} (ht : M.there S n i = true) (hc : M.chk c = 0) (hz : c.k = 0 → c = C.zero) : Good (M.upd S n i c) := by
  obtain ⟨d0, j, hd0, rfl, hj⟩ := M.there_yes ht
  have key : ∀ id d, M.upd S n j c id = some d → (id = n ∧ d = d0.set j c) ∨ (id ≠ n ∧ S id = some d) := by
    intro id d h
    unfold M.upd at h
    by_cases e : id = n
    · rw [if_pos e, hd0] at h
      simp at h
      exact .inl ⟨e, h.symm⟩
    · rw [if_neg e] at h
      exact .inr ⟨e, h⟩
  refine ⟨?_, ?_, ?_, ?_, ?_⟩
  · intro id d h
    rcases key id d h with ⟨rfl, _⟩ | ⟨_, h⟩
    · exact G.lo _ _ hd0
    · exact G.lo _ _ h
  · intro id d h
    rcases key id d h with ⟨rfl, rfl⟩ | ⟨_, h⟩
    · exact G.rad _ d0 hd0
    · exact G.rad _ _ h
  · intro id d i h hi
    rcases key id d h with ⟨rfl, rfl⟩ | ⟨_, h⟩
    · rw [Nd.set_r] at hi
      rw [Nd.set_at, if_neg (by omega)]
      exact G.out _ d0 i hd0 hi
    · exact G.out _ _ i h hi
  · intro id d i h
    rcases key id d h with ⟨rfl, rfl⟩ | ⟨_, h⟩
    · rw [Nd.set_at]
      split
      · exact hz
      · exact G.nul _ d0 i hd0
    · exact G.nul _ _ i h
  · intro id d i h
    rcases key id d h with ⟨rfl, rfl⟩ | ⟨_, h⟩
    · rw [Nd.set_at]
      split
      · exact hc
      · exact G.chk _ d0 i hd0
    · exact G.chk _ _ i h

theorem M.chk_zero : M.chk C.zero = 0 := by decide +kernel
theorem M.putE_ok {S : St} {n i : Int} {c : C} (h : M.putE S n i c = 0) : M.there S n i = true ∧ M.chk c = 0 ∧ c.k ≠ 0 ∧ (M.getC S n i).k = 0 := by
  unfold M.putE at h
  split at h
  · rename_i h1
    split at h
    · rename_i h2
      split at h
      · cases h
      · rename_i h3
        split at h
        · rename_i h4; exact ⟨h1, h2, h3, h4⟩
        · cases h
    · rename_i h2; exact absurd h h2
  · cases h
theorem M.takeE_ok {S : St} {n i : Int} (h : M.takeE S n i = 0) : M.there S n i = true ∧ (M.getC S n i).k ≠ 0 := by
  unfold M.takeE at h
  split at h
  · rename_i h1
    split at h
    · cases h
    · rename_i h2; exact ⟨h1, h2⟩
  · cases h
theorem Good.put {S : St} (G : Good S) (n i : Int) (c : C) : Good (M.putS S n i c) := by
  unfold M.putS
  split
  · rename_i h
    obtain ⟨h1, h2, h3, _⟩ := M.putE_ok h
    exact G.upd h1 h2 (fun e => absurd e h3)
  · exact G
theorem Good.take {S : St} (G : Good S) (n i : Int) : Good (M.takeS S n i) := by
  unfold M.takeS
  split
  · rename_i h
    exact G.upd (M.takeE_ok h).1 M.chk_zero (fun _ => rfl)
  · exact G

theorem SA.upd {w w' : World} {p b m : Nat} {K : Int → Option Nat} {S : St} (h : SA w p b m K S) {n : Int} {j q : Nat} {d : Nd} {c : C} (hs : S n = some d) (hk : K n = some q) (hj : j < 16) (hP : Put6 w w' q (1 + j * 6) c) :
    SA w' p b m K (M.upd S n j c) ∧ w.grownBy w' (some q) := by
  obtain ⟨d', hd', N⟩ := h.node n q hk
  rw [hs] at hd'; cases hd'
  obtain ⟨N', g⟩ := N.put j c hj hP
  have F : Fr (fun i => i = q) w w' := Fr.at g rfl
  refine ⟨⟨(F.block p h.plt (h.qp hk).symm).trans h.box, h.map.fr F (h.qb hk).symm, ?_, ?_, h.inj⟩, g⟩
  · intro id hid
    unfold M.upd
    rw [if_neg (by rintro rfl; rw [hk] at hid; cases hid)]
    exact h.gone id hid
  · intro id q' hid
    unfold M.upd
    by_cases e : id = n
    · subst e
      rw [hk] at hid; cases hid
      rw [if_pos rfl, hs]
      exact ⟨d.set j c, by simp, N'⟩
    · rw [if_neg e]
      obtain ⟨d2, h2, N2⟩ := h.node id q' hid
      exact ⟨d2, h2, N2.fr F (fun e2 => e (h.inj id n q' hid (by rw [e2]; exact hk)))⟩

theorem find_g {w : World} {p b m : Nat} {K : Int → Option Nat} {S : St} (h : SA w p b m K S) (G : Good S) {n : Int} {j q : Nat} {d : Nd} (hn : I64 n) (hs : S n = some d) (hk : K n = some q) (hj : j < 2 ^ d.r) :
    gFind w p n j (.pointer (some ⟨q, 1 + j * 6, none⟩)) := fun W g => find_at (h.kept g) G hn hs hk hj

theorem get_is {w : World} {p m : Nat} {O : Nat → Prop} {S : St} (h : SAt w p m O S) (G : Good S) (n i k o r b g t e : Int) (hn : I64 n) (hc : M.getC S n i = ⟨k, o, r, b, g, t⟩) (he : M.getE S n i = e) :
    Calls Tryz.prog 51 #[.pointer (some ⟨p, 0, none⟩), sv n i] w fun x w' => x = .returned (.tuple #[cv ⟨k, o, r, b, g, t⟩, .int .i64 e]) ∧ w.grownBy w' none := by
  obtain ⟨bb, K, h, _, _, _⟩ := h
  subst he
  cases ht : M.there S n i
  · rw [M.getC_no ht] at hc
    have : M.getE S n i = 6 := by unfold M.getE; rw [ht]; rfl
    rw [this, ← hc]
    exact get_no w p n i (fun W g => find_no (h.kept g) G hn ht)
  · obtain ⟨d, j, hs, rfl, hj⟩ := M.there_yes ht
    obtain ⟨q, hk, N⟩ := h.has hs
    have : M.getE S n j = 0 := by unfold M.getE; rw [ht]; rfl
    rw [this]
    rw [M.getC_at hs hj] at hc
    have h16 := (M.radW d.r (G.rad n d hs).1 (G.rad n d hs).2).2.1
    have Z := N.six j (by omega)
    rw [hc] at Z
    exact get_yes w p q _ n j k o r b g t (find_g h G hn hs hk hj) Z

theorem put_is {w : World} {p m : Nat} {O : Nat → Prop} {S : St} (h : SAt w p m O S) (G : Good S) (n i k o r b g t e : Int) (hn : I64 n) (hb : 0 ≤ b) (hg : 0 ≤ g) (he : M.putE S n i ⟨k, o, r, b, g, t⟩ = e) :
    Calls Tryz.prog 76 #[.pointer (some ⟨p, 0, none⟩), sv n i, cv ⟨k, o, r, b, g, t⟩] w fun x w' => x = .returned (.int .i64 e) ∧ SAt w' p m O (M.putS S n i ⟨k, o, r, b, g, t⟩) ∧ Fr O w w' := by
  obtain ⟨bb, K, h, op, ob, oq⟩ := h
  have HC := fun w => check_is k o r b g t _ hb hg rfl w
  have still : M.putE S n i ⟨k, o, r, b, g, t⟩ ≠ 0 → ∀ w', w.grownBy w' none → SAt w' p m O (M.putS S n i ⟨k, o, r, b, g, t⟩) ∧ Fr O w w' := by
    intro hne w' gw
    unfold M.putS
    rw [if_neg hne]
    exact ⟨⟨bb, K, h.kept gw, op, ob, oq⟩, Fr.grown gw⟩
  subst he
  cases ht : M.there S n i
  · have e : M.putE S n i ⟨k, o, r, b, g, t⟩ = 6 := by unfold M.putE; rw [ht]; rfl
    refine (put_no w p n i k o r b g t (fun W g => find_no (h.kept g) G hn ht)).mono fun x w' q => ⟨by rw [q.1, e], still (by rw [e]; decide) w' q.2⟩
  · obtain ⟨d, j, hs, rfl, hj⟩ := M.there_yes ht
    obtain ⟨q, hk, N⟩ := h.has hs
    have HF := find_g h G hn hs hk hj
    have h16 := (M.radW d.r (G.rad n d hs).1 (G.rad n d hs).2).2.1
    have Z := N.six j (by omega)
    by_cases h0 : M.chk ⟨k, o, r, b, g, t⟩ = 0
    · rw [h0] at HC
      by_cases hk0 : k = 0
      · have e : M.putE S n j ⟨k, o, r, b, g, t⟩ = 3 := by unfold M.putE; rw [ht, if_pos rfl, if_pos h0, if_pos hk0]
        refine (put_null w p q _ n j k o r b g t HF (by simpa using hk0) HC).mono fun x w' q => ⟨by rw [q.1, e], still (by rw [e]; decide) w' q.2⟩
      · by_cases hk1 : (d.f j).k = 0
        · have e : M.putE S n j ⟨k, o, r, b, g, t⟩ = 0 := by unfold M.putE; rw [ht, if_pos rfl, if_pos h0, if_neg hk0, M.getC_at hs hj, if_pos hk1]
          refine (put_yes w p q _ n j k o r b g t _ _ _ _ _ _ HF (by simpa using hk0) (by simpa using hk1) Z HC).mono ?_
          rintro x w' ⟨rfl, W, gW, hP⟩
          obtain ⟨h2, g2⟩ := (h.kept gW).upd hs hk (by omega) hP
          have : M.putS S n j ⟨k, o, r, b, g, t⟩ = M.upd S n j ⟨k, o, r, b, g, t⟩ := by unfold M.putS; rw [if_pos e]
          rw [e, this]
          exact ⟨rfl, ⟨bb, K, h2, op, ob, oq⟩, (Fr.grown gW).trans (Fr.at g2 (oq n q hk))⟩
        · have e : M.putE S n j ⟨k, o, r, b, g, t⟩ = 4 := by unfold M.putE; rw [ht, if_pos rfl, if_pos h0, if_neg hk0, M.getC_at hs hj, if_neg hk1]
          refine (put_twice w p q _ n j k o r b g t _ _ _ _ _ _ HF (by simpa using hk0) (by simpa using hk1) Z HC).mono fun x w' q => ⟨by rw [q.1, e], still (by rw [e]; decide) w' q.2⟩
    · have e : M.putE S n j ⟨k, o, r, b, g, t⟩ = M.chk ⟨k, o, r, b, g, t⟩ := by unfold M.putE; rw [ht, if_pos rfl, if_neg h0]
      refine (put_chk w p q _ n j k o r b g t _ HF (by simpa using h0) HC).mono fun x w' q => ⟨by rw [q.1, e], still (by rw [e]; exact h0) w' q.2⟩

theorem take_is {w : World} {p m : Nat} {O : Nat → Prop} {S : St} (h : SAt w p m O S) (G : Good S) (n i k o r b g t e : Int) (hn : I64 n) (hc : M.takeC S n i = ⟨k, o, r, b, g, t⟩) (he : M.takeE S n i = e) :
    Calls Tryz.prog 95 #[.pointer (some ⟨p, 0, none⟩), sv n i] w fun x w' => x = .returned (.tuple #[cv ⟨k, o, r, b, g, t⟩, .int .i64 e]) ∧ SAt w' p m O (M.takeS S n i) ∧ Fr O w w' := by
  obtain ⟨bb, K, h, op, ob, oq⟩ := h
  have still : M.takeE S n i ≠ 0 → cv C.zero = cv ⟨k, o, r, b, g, t⟩ ∧ ∀ w', w.grownBy w' none → SAt w' p m O (M.takeS S n i) ∧ Fr O w w' := by
    intro hne
    unfold M.takeS
    unfold M.takeC at hc
    rw [if_neg hne] at hc ⊢
    exact ⟨by rw [← hc], fun w' gw => ⟨⟨bb, K, h.kept gw, op, ob, oq⟩, Fr.grown gw⟩⟩
  subst he
  cases ht : M.there S n i
  · have e : M.takeE S n i = 6 := by unfold M.takeE; rw [ht]; rfl
    obtain ⟨h1, h2⟩ := still (by rw [e]; decide)
    refine (take_no w p n i (fun W g => find_no (h.kept g) G hn ht)).mono fun x w' q => ⟨by rw [q.1, e, h1], h2 w' q.2⟩
  · obtain ⟨d, j, hs, rfl, hj⟩ := M.there_yes ht
    obtain ⟨q, hk, N⟩ := h.has hs
    have HF := find_g h G hn hs hk hj
    have h16 := (M.radW d.r (G.rad n d hs).1 (G.rad n d hs).2).2.1
    have Z := N.six j (by omega)
    by_cases hk1 : (d.f j).k = 0
    · have e : M.takeE S n j = 3 := by unfold M.takeE; rw [ht, if_pos rfl, M.getC_at hs hj, if_pos hk1]
      obtain ⟨h1, h2⟩ := still (by rw [e]; decide)
      refine (take_null w p q _ n j _ _ _ _ _ _ HF Z (by simpa using hk1)).mono fun x w' q => ⟨by rw [q.1, e, h1], h2 w' q.2⟩
    · have e : M.takeE S n j = 0 := by unfold M.takeE; rw [ht, if_pos rfl, M.getC_at hs hj, if_neg hk1]
      have ec : M.takeC S n j = d.f j := by unfold M.takeC; rw [if_pos e, M.getC_at hs hj]
      have es : M.takeS S n j = M.upd S n j C.zero := by unfold M.takeS; rw [if_pos e]
      rw [ec] at hc
      rw [hc] at Z hk1
      refine (take_yes w p q _ n j k o r b g t HF Z (by simpa using hk1)).mono ?_
      rintro x w' ⟨rfl, W, W', gW, hP, y, hy, g3⟩
      obtain ⟨h2, g2⟩ := (h.kept gW).upd hs hk (by omega) hP
      have F2 : Fr O w W' := (Fr.grown gW).trans (Fr.at g2 (oq n q hk))
      have hlt : ∀ z, z < w.heap.size → z ≠ y := fun z hz e => by omega
      have F3 : Fr (fun z => z = y) W' w' := Fr.at g3 rfl
      have h3 := h2.fr F3 (hlt _ h.plt) (hlt _ h.map.lt) (fun id q' hq' => by obtain ⟨d', _, N'⟩ := h.node id q' hq'; exact hlt _ N'.lt)
      rw [e, es]
      refine ⟨rfl, ⟨bb, K, h3, op, ob, oq⟩, F2.join F3 (fun z hz e => absurd e (hlt z hz))⟩

end Go.Proofs.YtdnoidnpiaadaaaGreat

/-
  THE DOCUMENT'S SIDE: what donjonref05 calls of donjonref01 and donjonref04.
-/
namespace Go.Proofs.YtdnoidnpiaadaaaGreat
set_option maxRecDepth 10000
open Go.RowKit

set_option maxHeartbeats 400000 in
theorem rcheck_any (a : Int) (w : World) : Calls Tryz.prog 115 #[.int .i64 a] w fun e w' => e = .returned (.bool (M.ck a)) ∧ w' = w := by
  by_cases c1 : 0 ≤ a
  · by_cases c2 : a ≤ 7
    · go_enter Tryz.func115, Tryz.ntmps115
      go_wp2
      go_ret
      exact ⟨ret_bool (by simp [M.ck, c1, c2]), rfl⟩
    · go_enter Tryz.func115, Tryz.ntmps115
      go_wp2
      go_ret
      exact ⟨ret_bool (by simp [M.ck]; omega), rfl⟩
  · go_enter Tryz.func115, Tryz.ntmps115
    go_wp2
    go_ret
    exact ⟨ret_bool (by simp [M.ck]; omega), rfl⟩

theorem rcheck_is (a : Int) (v : Bool) (h : M.ck a = v) (w : World) : Calls Tryz.prog 115 #[.int .i64 a] w fun e w' => e = .returned (.bool v) ∧ w' = w := by
  subst h; exact rcheck_any a w

/-- Whether a right is there, told by a division. -/
def M.hs (r n : Nat) : Bool := r / n % 2 == 1

theorem M.has_val {r n : Nat} (h : r < 8) (hn : n ≤ 4) : ((wrap64 ((r : Int) / (n : Int))).tmod 2 == 1) = M.hs r n := by
  have k : ∀ a : Fin 8, ∀ b : Fin 5, ((wrap64 ((a.val : Int) / (b.val : Int))).tmod 2 == 1) = M.hs a.val b.val := by decide +kernel
  exact k ⟨r, h⟩ ⟨n, by omega⟩
/-- What is in both among the first rights, and then the next one. -/
theorem M.step {A B j : Nat} (hA : A < 8) (hB : B < 8) (hj : j < 3) : (A &&& B) % 2 ^ (j + 1) = (A &&& B) % 2 ^ j + (if M.hs A (2 ^ j) && M.hs B (2 ^ j) then 2 ^ j else 0) := by
  have k : ∀ a : Fin 8, ∀ b : Fin 8, ∀ i : Fin 3, (a.val &&& b.val) % 2 ^ (i.val + 1) = (a.val &&& b.val) % 2 ^ i.val + (if M.hs a.val (2 ^ i.val) && M.hs b.val (2 ^ i.val) then 2 ^ i.val else 0) := by decide +kernel
  exact k ⟨A, hA⟩ ⟨B, hB⟩ ⟨j, hj⟩
theorem M.last {A B : Nat} (hA : A < 8) (hB : B < 8) : (A &&& B) % 2 ^ 3 = A &&& B := by
  have k : ∀ a : Fin 8, ∀ b : Fin 8, (a.val &&& b.val) % 2 ^ 3 = a.val &&& b.val := by decide
  exact k ⟨A, hA⟩ ⟨B, hB⟩

set_option maxHeartbeats 400000 in
theorem has_is (r n : Nat) (v : Bool) (h : r < 8) (hn : 1 ≤ n) (hn4 : n ≤ 4) (hv : M.hs r n = v) (w : World) : Calls Tryz.prog 131 #[.int .i64 r, .int .i64 n] w fun e w' => e = .returned (.bool v) ∧ w' = w := by
  subst hv
  go_enter Tryz.func131, Tryz.ntmps131
  go_wp2
  go_ret
  exact ⟨ret_bool (M.has_val h hn4), rfl⟩

theorem M.pw (j : Nat) (h : j ≤ 3) : ∃ n : Nat, Hid (n = 2 ^ j) ∧ 1 ≤ n ∧ n ≤ 8 ∧ (j < 3 → n ≤ 4) ∧ (¬ j < 3 → 8 ≤ n) := by
  refine ⟨2 ^ j, rfl, ?_⟩
  have k : ∀ i : Fin 4, 1 ≤ 2 ^ i.val ∧ 2 ^ i.val ≤ 8 ∧ (i.val < 3 → 2 ^ i.val ≤ 4) ∧ (¬ i.val < 3 → 8 ≤ 2 ^ i.val) := by decide
  exact k ⟨j, by omega⟩

set_option maxHeartbeats 800000 in
theorem rmask_nat (A B : Nat) (hA : A < 8) (hB : B < 8) (w : World) : Calls Tryz.prog 117 #[.int .i64 A, .int .i64 B] w fun e w' => e = .returned (.int .i64 (A &&& B : Nat)) ∧ w' = w := by
  go_enter Tryz.func117, Tryz.ntmps117
  go_wp2_with fail
  refine (rcheck_is A true (M.nat_ck hA) _).mono ?_
  rintro e w' ⟨rfl, rfl⟩
  go_wp2_with fail
  refine (rcheck_is B true (M.nat_ck hB) _).mono ?_
  rintro e w' ⟨rfl, rfl⟩
  go_wp2
  go_loopg [5, 6] 3 (fun g m i wr => ∃ j n p : Nat, j + g = 3 ∧ i = .int .i64 n ∧ m = .int .i64 p ∧ Hid (n = 2 ^ j) ∧ Hid (p = (A &&& B) % 2 ^ j) ∧ wr = w')
  case atStart => exact ⟨0, 1, 0, by omega, rfl, rfl, rfl, (Nat.mod_one _).symm, rfl⟩
  case round =>
    obtain ⟨j, n, p, hj, rfl, rfl, hn, hp, rfl⟩ := hrel
    obtain ⟨n', hn', h1, h8, h4, h9⟩ := M.pw j (by omega)
    obtain rfl : n = n' := hn.out.trans hn'.out.symm
    clear hn'
    have hp8 : p ≤ 8 := by
      have h := hp.out
      have h2 := hn.out
      have h3 : (A &&& B) % 2 ^ j < 2 ^ j := Nat.mod_lt _ (Nat.two_pow_pos j)
      omega
    by_cases hlt : j < 3
    · have h4 := h4 hlt
      clear h9
      have hs := M.step hA hB hlt
      rw [← hp.out, ← hn.out] at hs
      have hs : Hid _ := hs
      have hn2 : Hid (n + n = 2 ^ (j + 1)) := by have h := hn.out; rw [Nat.pow_succ]; show n + n = _; omega
      by_cases c1 : M.hs A n = true
      · by_cases c2 : M.hs B n = true
        · have hq : Hid ((A &&& B) % 2 ^ (j + 1) = p + n) := by have h := hs.out; rw [c1, c2] at h; exact hideIt (by simpa using h)
          clear hs
          go_wp2_with fail
          refine (has_is A n true hA h1 h4 c1 _).mono ?_
          rintro e w' ⟨rfl, rfl⟩
          go_wp2_with fail
          refine (has_is B n true hB h1 h4 c2 _).mono ?_
          rintro e w' ⟨rfl, rfl⟩
          go_wp2
          go_roundg (3 - (j + 1))
          case rel => exact ⟨j + 1, n + n, p + n, by omega, by go_num, by go_num, hn2, hq.out.symm, rfl⟩
          case measure => omega
        · rw [Bool.not_eq_true] at c2
          have hq : Hid ((A &&& B) % 2 ^ (j + 1) = p) := by have h := hs.out; rw [c1, c2] at h; exact hideIt (by simpa using h)
          clear hs
          go_wp2_with fail
          refine (has_is A n true hA h1 h4 c1 _).mono ?_
          rintro e w' ⟨rfl, rfl⟩
          go_wp2_with fail
          refine (has_is B n false hB h1 h4 c2 _).mono ?_
          rintro e w' ⟨rfl, rfl⟩
          go_wp2
          go_roundg (3 - (j + 1))
          case rel => exact ⟨j + 1, n + n, p, by omega, by go_num, rfl, hn2, hq.out.symm, rfl⟩
          case measure => omega
      · rw [Bool.not_eq_true] at c1
        have hq : Hid ((A &&& B) % 2 ^ (j + 1) = p) := by have h := hs.out; rw [c1] at h; exact hideIt (by simpa using h)
        clear hs
        go_wp2_with fail
        refine (has_is A n false hA h1 h4 c1 _).mono ?_
        rintro e w' ⟨rfl, rfl⟩
        go_wp2
        go_roundg (3 - (j + 1))
        case rel => exact ⟨j + 1, n + n, p, by omega, by go_num, rfl, hn2, hq.out.symm, rfl⟩
        case measure => omega
    · have h9 := h9 hlt
      have hj3 : j = 3 := by omega
      have hq : Hid (p = A &&& B) := by have h := hp.out; rw [hj3, M.last hA hB] at h; exact h
      clear h4 hp hn hj3 hj
      go_wp2
      go_ret
      exact ⟨by rw [← hq.out]; rfl, rfl⟩

theorem rmask_any (a b : Int) (w : World) : Calls Tryz.prog 117 #[.int .i64 a, .int .i64 b] w fun e w' => e = .returned (.int .i64 (M.msk a b)) ∧ w' = w := by
  by_cases c1 : M.ck a = true
  · by_cases c2 : M.ck b = true
    · obtain ⟨A, rfl, hA⟩ := M.ck_nat c1
      obtain ⟨B, rfl, hB⟩ := M.ck_nat c2
      rw [M.msk_nat hA hB]
      exact rmask_nat A B hA hB w
    · rw [Bool.not_eq_true] at c2
      go_enter Tryz.func117, Tryz.ntmps117
      go_wp2_with fail
      refine (rcheck_is a true c1 _).mono ?_
      rintro e w' ⟨rfl, rfl⟩
      go_wp2_with fail
      refine (rcheck_is b false c2 _).mono ?_
      rintro e w' ⟨rfl, rfl⟩
      go_wp2
      go_ret
      exact ⟨ret_int (by simp [M.msk, c2]), rfl⟩
  · rw [Bool.not_eq_true] at c1
    go_enter Tryz.func117, Tryz.ntmps117
    go_wp2_with fail
    refine (rcheck_is a false c1 _).mono ?_
    rintro e w' ⟨rfl, rfl⟩
    go_wp2
    go_ret
    exact ⟨ret_int (by simp [M.msk, c1]), rfl⟩

end Go.Proofs.YtdnoidnpiaadaaaGreat
