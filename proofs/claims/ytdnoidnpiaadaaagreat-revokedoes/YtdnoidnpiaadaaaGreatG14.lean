/-
  THE DOCUMENT'S SIDE (donjonref09): Has, Root, Child, Move.
-/
import Derived.Test.YtdnoidnpiaadaaaGreatG12
import Derived.Test.YtdnoidnpiaadaaaGreatTGone
namespace Go.Proofs.YtdnoidnpiaadaaaGreat
set_option maxRecDepth 10000
namespace T9
open Go.RowKit
set_option linter.unusedVariables false
variable {u : Value} {tc : TypeId}

theorem Good.depth {f : Fo} (hm : f.len ≤ 60) : ∀ x ∈ f.flat 0, x.2 ≤ 1000 := fun x hx => by
  have := Fo.flat_lt f 0 x hx
  unfold Fo.len at hm
  omega
theorem flat_out {f : Fo} {s : Int × Int} (h : f.has s = false) : ∀ x ∈ f.flat 0, x.1 ≠ s := fun x hx e => by
  refine Fo.has_not.1 h ?_
  rw [← Fo.flat_fst f 0, ← e]
  exact List.mem_map_of_mem hx

/-- What the row tells of a slot that is there. -/
structure Pos (f : Fo) (s : Int × Int) (d : Fo) (A C : List Kn) (i e j n : Nat) : Prop where
  at' : Fo.At f 0 s d A C j
  len : f.len = n
  ai : A.length = i
  ei : i + 1 + d.pre.length = e
  hi : (f.flat 0)[i]? = some (s, j)
  hf : ∀ k x, k < i → (f.flat 0)[k]? = some x → x.1 ≠ s
  hen : e ≤ n
  hin : ∀ c x, i < c → c < e → (f.flat 0)[c]? = some x → j < x.2
  hend : ∀ x, (f.flat 0)[e]? = some x → x.2 ≤ j
  kin : ∀ c, i + 1 + c < e → (f.flat 0)[i + 1 + c]? = (d.flat (j + 1))[c]?
theorem pos_of {f : Fo} (G : Good f) {s : Int × Int} (h : f.has s = true) : ∃ d A C i e j n, Pos f s d A C i e j n ∧ f.sub s = some d := by
  obtain ⟨d, hd⟩ := Fo.sub_some.2 (Fo.has_iff.1 h)
  obtain ⟨A, C, j, H⟩ := Fo.at_of G.nd hd 0
  have hl := Fo.flat_len f 0
  have hdl := Fo.flat_len d (j + 1)
  have eq := H.eq
  have hlen : A.length + (1 + (d.pre.length + C.length)) = f.pre.length := by
    rw [← hl, eq]; simp [hdl]; omega
  have hkin : ∀ c, c < d.pre.length → (f.flat 0)[A.length + 1 + c]? = (d.flat (j + 1))[c]? := fun c hc => by
    rw [eq, List.getElem?_append_right (by omega), show A.length + 1 + c - A.length = c + 1 by omega, List.getElem?_cons_succ, List.getElem?_append_left (by rw [hdl]; exact hc)]
  refine ⟨d, A, C, A.length, A.length + 1 + d.pre.length, j, f.len, ⟨H, rfl, rfl, rfl, ?_, ?_, ?_, ?_, ?_, fun c hc => hkin c (by omega)⟩, hd⟩
  · rw [eq, List.getElem?_append_right (Nat.le_refl _)]; simp
  · intro k x hk hx
    rw [eq, List.getElem?_append_left hk] at hx
    exact H.out x (List.mem_of_getElem? hx)
  · unfold Fo.len; omega
  · intro c x h1 h2 hx
    obtain ⟨c', rfl⟩ : ∃ c', c = A.length + 1 + c' := ⟨c - (A.length + 1), by omega⟩
    rw [hkin c' (by omega)] at hx
    have := Fo.flat_ge d (j + 1) x (List.mem_of_getElem? hx)
    omega
  · intro x hx
    rw [eq, List.getElem?_append_right (by omega), show A.length + 1 + d.pre.length - A.length = d.pre.length + 1 by omega, List.getElem?_cons_succ, List.getElem?_append_right (by rw [hdl]; exact Nat.le_refl _), hdl, Nat.sub_self] at hx
    exact H.hd x (by rw [List.head?_eq_getElem?]; exact hx)

/-- at, whatever it tells. -/
theorem at_yes {w : World} {p : Nat} {v : Value} {f : Fo} {a b : Int} {d : Fo} {A C : List Kn} {i e j n : Nat} (H : RA u tc w p v (f.flat 0)) (P : Pos f (a, b) d A C i e j n) (hm : f.len ≤ 60) :
    Calls Tryz.prog 60 #[.pointer (some ⟨p, 1, none⟩), sv a b] w fun x w' => x = .returned (.int .i64 i) ∧ w.grownBy w' none := by
  have hl : (f.flat 0).length = n := by rw [Fo.flat_len]; exact P.len
  obtain ⟨x, y, rfl⟩ := H.row.any hl
  exact rat_yes (hideIt H) (hideIt hl) (by have := P.len; omega) a b j (hideIt P.hi) (hideIt P.hf)
theorem at_no {w : World} {p : Nat} {v : Value} {f : Fo} {a b : Int} (H : RA u tc w p v (f.flat 0)) (h : f.has (a, b) = false) (hm : f.len ≤ 60) :
    Calls Tryz.prog 60 #[.pointer (some ⟨p, 1, none⟩), sv a b] w fun x w' => x = .returned (.int .i64 (-1)) ∧ w.grownBy w' none := by
  have hl : (f.flat 0).length = f.len := by rw [Fo.flat_len]; rfl
  obtain ⟨x, y, rfl⟩ := H.row.any hl
  exact rat_no (hideIt H) (hideIt hl) (by omega) a b (hideIt (flat_out h))
theorem end_is {w : World} {p : Nat} {v : Value} {f : Fo} {s : Int × Int} {d : Fo} {A C : List Kn} {i e j n : Nat} (H : RA u tc w p v (f.flat 0)) (P : Pos f s d A C i e j n) (hm : f.len ≤ 60) :
    Calls Tryz.prog 61 #[.pointer (some ⟨p, 1, none⟩), .int .i64 i] w fun x w' => x = .returned (.int .i64 e) ∧ w.grownBy w' none := by
  have hl : (f.flat 0).length = n := by rw [Fo.flat_len]; exact P.len
  obtain ⟨x, y, rfl⟩ := H.row.any hl
  exact rend_is (hideIt H) (hideIt hl) (by have := P.len; omega) s j (hideIt P.hi) (by have := P.ei; omega) P.hen (hideIt P.hin) (hideIt P.hend) (hideIt (Good.depth hm))

set_option maxHeartbeats 400000 in
theorem rroot_twice {w : World} {p : Nat} {v : Value} {f : Fo} {a b : Int} {d : Fo} {A C : List Kn} {i e j n : Nat} (H : Hid (RA u tc w p v (f.flat 0))) (P : Hid (Pos f (a, b) d A C i e j n)) (hm : Hid (f.len ≤ 60)) :
    Calls Tryz.prog 79 #[.pointer (some ⟨p, 1, none⟩), sv a b] w fun e w' => e = .returned (.int .i64 4) ∧ w.grownBy w' none := by
  go_enter Tryz.func79, Tryz.ntmps79
  go_upto_region 1 with fail
  obtain ⟨W, hW, X, g0⟩ := sboxNew w a b
  rw [hW]
  clear hW
  have x0 := X.at0
  have x1 := X.at1
  go_wp2_with fail
  refine (at_yes (H.out.kept g0) P.out hm.out).mono ?_
  rintro _ w1 ⟨rfl, g1⟩
  go_wp2
  go_ret
  exact ⟨rfl, gbTrans g0 g1⟩

set_option maxHeartbeats 1000000 in
theorem rroot_new {w : World} {p n cap : Nat} {xo : Option Addr} {f : Fo} {a b : Int} (H : Hid (RA u tc w p (.slice xo n cap) (f.flat 0))) (hn : Hid ((f.flat 0).length = n)) (hh : Hid (f.has (a, b) = false)) (hm : Hid (f.len ≤ 60)) (hn60 : n ≤ 60) :
    Calls Tryz.prog 79 #[.pointer (some ⟨p, 1, none⟩), sv a b] w fun e w' => e = .returned (.int .i64 0) ∧ ∃ v', RA u tc w' p v' (f.flat 0 ++ [((a, b), 0)]) ∧ Fr (fun x => x = p) w w' ∧ ∀ g, v'.ownBlock = some g → w.heap.size ≤ g ∧ g < w'.heap.size := by
  go_enter Tryz.func79, Tryz.ntmps79
  go_upto_region 1 with fail
  obtain ⟨W, hW, X, g0⟩ := sboxNew w a b
  rw [hW]
  clear hW
  have x0 := X.at0
  have x1 := X.at1
  go_wp2_with fail
  refine (at_no (H.out.kept g0) hh.out hm.out).mono ?_
  rintro _ w1 ⟨rfl, g1⟩
  have G1 := gbTrans g0 g1
  have gd := gbDrew (gbRefl w1 none)
  have hC : ∀ w', w1.grownBy w' none → w'.cell? ⟨p, 1, none⟩ = some (.slice xo n cap) := fun w' g' => (H.out.kept (gbTrans G1 g')).cell
  have hX0 : ∀ w', w1.grownBy w' none → w'.cell? ⟨w.heap.size, 0, none⟩ = some (.int .i64 a) := fun w' g' => ((X.kept g1).kept g').at0
  have hX1 : ∀ w', w1.grownBy w' none → w'.cell? ⟨w.heap.size, 1, none⟩ = some (.int .i64 b) := fun w' g' => ((X.kept g1).kept g').at1
  have HPt := rput_is (H.out.kept (gbTrans G1 gd)) hn.out (by omega) (Nat.le_refl n) a b 0
  clear x0 x1
  go_wp2
  have c1 := hC w1 (gbRefl _ _)
  have x0 := hX0 w1 (gbRefl _ _)
  have x1 := hX1 w1 (gbRefl _ _)
  clear hC hX0 hX1
  go_region_with ((go_at_call 111; refine HPt.mono ?_; rintro _ w2 ⟨rfl, v', T, F, N⟩))
  all_goals (
    have e : (f.flat 0).take n ++ (((a, b), 0) :: (f.flat 0).drop n) = f.flat 0 ++ [((a, b), 0)] := by rw [List.take_of_length_le (by rw [hn.out]; exact Nat.le_refl _), List.drop_eq_nil_of_le (by rw [hn.out]; exact Nat.le_refl _)]
    rw [e] at T
    have HT := hideIt T
    have HF : Hid (Fr (fun x => x = p) w w2) := hideIt ((Fr.grown (gbTrans G1 gd)).trans F)
    have HN : Hid (∀ g, v'.ownBlock = some g → w.heap.size ≤ g ∧ g < w2.heap.size) := hideIt (fun g hg => ⟨Nat.le_trans (gbTrans G1 gd).size (N g hg).1, (N g hg).2⟩)
    clear T F N e
    go_wp2
    go_ret
    exact ⟨rfl, v', HT.out, HF.out, HN.out⟩)

theorem rroot_is {w : World} {p : Nat} {O : Nat → Prop} {f : Fo} (h : RAt u tc w p O f) (G : Good f) (hm : f.len ≤ 60) (a b e : Int) (he : f.rootE (a, b) = e) :
    Calls Tryz.prog 79 #[.pointer (some ⟨p, 1, none⟩), sv a b] w fun x w' => x = .returned (.int .i64 e) ∧ RAt u tc w' p (wide O w w') (f.rootF (a, b)) ∧ Fr O w w' := by
  unfold Fo.rootE at he
  unfold Fo.rootF
  obtain ⟨v, H, hp, hg⟩ := h
  cases hs : f.has (a, b) with
  | true =>
    rw [hs] at he
    simp only [if_true] at he ⊢
    subst he
    obtain ⟨d, A, C, i, e, j, n, P, _⟩ := pos_of G hs
    refine (rroot_twice (hideIt H) (hideIt P) (hideIt hm)).mono ?_
    rintro _ w1 ⟨rfl, g1⟩
    exact ⟨rfl, ⟨v, H.kept g1, .inl hp, fun g e => .inl (hg g e)⟩, Fr.grown g1⟩
  | false =>
    rw [hs] at he
    simp only [Bool.false_eq_true, if_false] at he ⊢
    subst he
    have hl : (f.flat 0).length = f.len := by rw [Fo.flat_len]; rfl
    obtain ⟨x, y, rfl⟩ := H.row.any hl
    refine (rroot_new (hideIt H) (hideIt hl) (hideIt hs) (hideIt hm) hm).mono ?_
    rintro _ w1 ⟨rfl, v', T, F, N⟩
    refine ⟨rfl, ⟨v', ?_, .inl hp, fun g e => .inr (N g e)⟩, F.mono (fun i _ e => e ▸ hp)⟩
    have e : (Fo.app f (Fo.one (a, b))).flat 0 = f.flat 0 ++ [((a, b), 0)] := by rw [Fo.flat_app]; rfl
    rw [e]; exact T

/-! ### Child -/
set_option maxHeartbeats 400000 in
theorem rchild_none {w : World} {p : Nat} {v : Value} {f : Fo} {a b c d : Int} (H : Hid (RA u tc w p v (f.flat 0))) (hh : Hid (f.has (a, b) = false)) (hm : Hid (f.len ≤ 60)) :
    Calls Tryz.prog 84 #[.pointer (some ⟨p, 1, none⟩), sv a b, sv c d] w fun e w' => e = .returned (.int .i64 3) ∧ w.grownBy w' none := by
  go_enter Tryz.func84, Tryz.ntmps84
  go_upto_region 1 with fail
  obtain ⟨W, hW, X, Y, g0⟩ := twoS w a b c d
  rw [hW]
  clear hW
  have x0 := X.at0
  have x1 := X.at1
  go_wp2_with fail
  refine (at_no (H.out.kept g0) hh.out hm.out).mono ?_
  rintro _ w1 ⟨rfl, g1⟩
  go_wp2
  go_ret
  exact ⟨rfl, gbTrans g0 g1⟩
set_option maxHeartbeats 400000 in
theorem rchild_twice {w : World} {p : Nat} {v : Value} {f : Fo} {a b c d : Int} {D D2 : Fo} {A C A2 C2 : List Kn} {i e j n i2 e2 j2 n2 : Nat} (H : Hid (RA u tc w p v (f.flat 0))) (P : Hid (Pos f (a, b) D A C i e j n)) (P2 : Hid (Pos f (c, d) D2 A2 C2 i2 e2 j2 n2)) (hm : Hid (f.len ≤ 60)) :
    Calls Tryz.prog 84 #[.pointer (some ⟨p, 1, none⟩), sv a b, sv c d] w fun e w' => e = .returned (.int .i64 4) ∧ w.grownBy w' none := by
  go_enter Tryz.func84, Tryz.ntmps84
  go_upto_region 1 with fail
  obtain ⟨W, hW, X, Y, g0⟩ := twoS w a b c d
  rw [hW]
  clear hW
  have x0 := X.at0
  have x1 := X.at1
  go_wp2_with fail
  refine (at_yes (H.out.kept g0) P.out hm.out).mono ?_
  rintro _ w1 ⟨rfl, g1⟩
  clear x0 x1
  have y0 := (Y.kept g1).at0
  have y1 := (Y.kept g1).at1
  have hi0 : ¬ (i : Int) < 0 := by omega
  go_wp2_with fail
  refine (at_yes (H.out.kept (gbTrans g0 g1)) P2.out hm.out).mono ?_
  rintro _ w2 ⟨rfl, g2⟩
  go_wp2
  go_ret
  exact ⟨rfl, gbTrans (gbTrans g0 g1) g2⟩

set_option maxRecDepth 10000 in
set_option maxHeartbeats 4000000 in
theorem rchild_new {w : World} {p g cap : Nat} {f : Fo} {a b c d : Int} {D : Fo} {A C : List Kn} {i e j n : Nat} (H : Hid (RA u tc w p (.slice (some ⟨g, 0, none⟩) n cap) (f.flat 0))) (P : Hid (Pos f (a, b) D A C i e j n)) (hh : Hid (f.has (c, d) = false)) (hm : Hid (f.len ≤ 60)) (hn60 : n ≤ 60) (hj : j ≤ 60) (hin : i < n) :
    Calls Tryz.prog 84 #[.pointer (some ⟨p, 1, none⟩), sv a b, sv c d] w fun x w' => x = .returned (.int .i64 0) ∧ ∃ v', RA u tc w' p v' ((f.flat 0).take e ++ (((c, d), j + 1) :: (f.flat 0).drop e)) ∧ Fr (fun x => x = p) w w' ∧ ∀ g, v'.ownBlock = some g → w.heap.size ≤ g ∧ g < w'.heap.size := by
  have hl : Hid ((f.flat 0).length = n) := hideIt (by rw [Fo.flat_len]; exact P.out.len)
  go_enter Tryz.func84, Tryz.ntmps84
  go_upto_region 1 with fail
  obtain ⟨W, hW, X, Y, g0⟩ := twoS w a b c d
  rw [hW]
  clear hW
  have x0 := X.at0
  have x1 := X.at1
  go_wp2_with fail
  refine (at_yes (H.out.kept g0) P.out hm.out).mono ?_
  rintro _ w1 ⟨rfl, g1⟩
  clear x0 x1
  have y0 := (Y.kept g1).at0
  have y1 := (Y.kept g1).at1
  have hi0 : ¬ (i : Int) < 0 := by omega
  go_wp2_with fail
  refine (at_no (H.out.kept (gbTrans g0 g1)) hh.out hm.out).mono ?_
  rintro _ w2 ⟨rfl, g2⟩
  clear y0 y1
  have G2 := gbTrans (gbTrans g0 g1) g2
  have Y2 := (Y.kept g1).kept g2
  have gd := gbDrew (gbRefl w2 none)
  have HEn : ∀ W', w2.grownBy W' none → Calls Tryz.prog 61 #[.pointer (some ⟨p, 1, none⟩), .int .i64 i] W' fun x w' => x = .returned (.int .i64 e) ∧ W'.grownBy w' none := fun W' g' => end_is (H.out.kept (gbTrans G2 g')) P.out hm.out
  have HPt : ∀ W', w2.grownBy W' none → Calls Tryz.prog 111 #[.pointer (some ⟨p, 1, none⟩), .int .i64 e, .agg #[.int .i64 c, .int .i64 d, .int .i64 ((j + 1 : Nat) : Int)]] W' fun x w' => x = .returned (.tuple #[]) ∧ ∃ v', RA u tc w' p v' ((f.flat 0).take e ++ (((c, d), j + 1) :: (f.flat 0).drop e)) ∧ Fr (fun x => x = p) W' w' ∧ ∀ g, v'.ownBlock = some g → W'.heap.size ≤ g ∧ g < w'.heap.size := fun W' g' => rput_is (H.out.kept (gbTrans G2 g')) hl.out (by omega) P.out.hen c d (j + 1)
  obtain ⟨j1, hj1⟩ : ∃ j1, j + 1 = j1 := ⟨_, rfl⟩
  rw [hj1] at HPt
  have Hj1 := hideIt hj1
  have hj1' : (j : Int) + 1 = (j1 : Int) := by omega
  have hwj : IntKind.i64.wrap (j1 : Int) = (j1 : Int) := by rw [IntKind.wrap_i64]; omega
  have c2 := (H.out.kept G2).cell
  have y0 := Y2.at0
  have y1 := Y2.at1
  have e2 := ((H.out.kept G2).row.el hl.out i _ P.out.hi).2.2
  simp only at e2
  have hil : (i : Int) < (n : Int) := by omega
  have hcl : ∀ w', w2.drew.grownBy w' none → (w'.cell? ⟨p, 1, none⟩ = some (.slice (some ⟨g, 0, none⟩) n cap) ∧ w'.cell? ⟨w.heap.size + 1, 0, none⟩ = some (.int .i64 c) ∧ w'.cell? ⟨w.heap.size + 1, 1, none⟩ = some (.int .i64 d) ∧ w'.cell? ⟨g, i * 3 + 2, none⟩ = some (.int .i64 j)) := fun w' g' => ⟨(gbTrans gd g').cell c2 (by simp), (gbTrans gd g').cell y0 (by simp), (gbTrans gd g').cell y1 (by simp), (gbTrans gd g').cell e2 (by simp)⟩
  clear hj1
  go_wp2
  go_region_with ((first | (go_at_call 61; refine (HEn _ gd).mono ?_; rintro _ w3 ⟨rfl, g3⟩; have G3 := gbTrans gd g3; obtain ⟨k0, k1, k2, k3⟩ := hcl w3 g3) | (go_at_call 111; refine (HPt _ G3).mono ?_; rintro _ w4 ⟨rfl, v', T, F, N⟩)))
  all_goals (
    rw [← Hj1.out] at T
    have HT := hideIt T
    have HF : Hid (Fr (fun x => x = p) w w4) := hideIt ((Fr.grown (gbTrans G2 G3)).trans F)
    have HN : Hid (∀ g, v'.ownBlock = some g → w.heap.size ≤ g ∧ g < w4.heap.size) := hideIt (fun g hg => ⟨Nat.le_trans (gbTrans G2 G3).size (N g hg).1, (N g hg).2⟩)
    clear T F N
    go_wp2
    go_ret
    exact ⟨rfl, v', HT.out, HF.out, HN.out⟩)

end T9
end Go.Proofs.YtdnoidnpiaadaaaGreat

/-
  THE DOCUMENT'S SIDE (donjonref09): Child, Move, as contracts on the plain tree.
-/
namespace Go.Proofs.YtdnoidnpiaadaaaGreat
set_option maxRecDepth 10000
namespace T9
open Go.RowKit
set_option linter.unusedVariables false
variable {u : Value} {tc : TypeId}

/-- What stands ahead of the place behind a slot's kin. -/
theorem Pos.cut {f : Fo} {s : Int × Int} {d : Fo} {A C : List Kn} {i e j n : Nat} (P : Pos f s d A C i e j n) (x : Kn) : (f.flat 0).take e ++ (x :: (f.flat 0).drop e) = A ++ ((s, j) :: (d.flat (j + 1) ++ (x :: C))) := by
  have h1 : (A ++ ((s, j) :: d.flat (j + 1))).length = e := by simp [Fo.flat_len, P.ai]; have := P.ei; omega
  have h2 : f.flat 0 = (A ++ ((s, j) :: d.flat (j + 1))) ++ C := by rw [P.at'.eq]; simp
  rw [h2, List.take_left' h1, List.drop_left' h1]
  simp
theorem Pos.lt {f : Fo} {s : Int × Int} {d : Fo} {A C : List Kn} {i e j n : Nat} (P : Pos f s d A C i e j n) : i < n := by have := P.ei; have := P.hen; omega
theorem Pos.dp {f : Fo} {s : Int × Int} {d : Fo} {A C : List Kn} {i e j n : Nat} (P : Pos f s d A C i e j n) : j < n := by
  have := Fo.flat_lt f 0 _ (List.mem_of_getElem? P.hi)
  have h2 := P.len
  unfold Fo.len at h2
  simp only at this
  omega

theorem rchild_is {w : World} {p : Nat} {O : Nat → Prop} {f : Fo} (h : RAt u tc w p O f) (G : Good f) (hm : f.len ≤ 60) (a b c d e : Int) (he : f.childE (a, b) (c, d) = e) :
    Calls Tryz.prog 84 #[.pointer (some ⟨p, 1, none⟩), sv a b, sv c d] w fun x w' => x = .returned (.int .i64 e) ∧ RAt u tc w' p (wide O w w') (f.childF (a, b) (c, d)) ∧ Fr O w w' := by
  unfold Fo.childE at he
  unfold Fo.childF
  obtain ⟨v, H, hp, hg⟩ := h
  cases hs : f.has (a, b) with
  | false =>
    rw [hs] at he
    simp only [Bool.false_eq_true, if_false] at he ⊢
    subst he
    refine (rchild_none (hideIt H) (hideIt hs) (hideIt hm)).mono ?_
    rintro _ w1 ⟨rfl, g1⟩
    exact ⟨rfl, ⟨v, H.kept g1, .inl hp, fun g e => .inl (hg g e)⟩, Fr.grown g1⟩
  | true =>
    rw [hs] at he
    simp only [if_true] at he ⊢
    obtain ⟨D, A, C, i, e', j, n, P, hD⟩ := pos_of G hs
    cases hs2 : f.has (c, d) with
    | true =>
      rw [hs2] at he
      simp only [if_true] at he ⊢
      subst he
      obtain ⟨D2, A2, C2, i2, e2, j2, n2, P2, _⟩ := pos_of G hs2
      refine (rchild_twice (hideIt H) (hideIt P) (hideIt P2) (hideIt hm)).mono ?_
      rintro _ w1 ⟨rfl, g1⟩
      exact ⟨rfl, ⟨v, H.kept g1, .inl hp, fun g e => .inl (hg g e)⟩, Fr.grown g1⟩
    | false =>
      rw [hs2] at he
      simp only [Bool.false_eq_true, if_false] at he ⊢
      subst he
      have hl : (f.flat 0).length = n := by rw [Fo.flat_len]; exact P.len
      rcases H.row.form hl with ⟨_, h0⟩ | ⟨g, cap, rfl, _⟩
      · have := P.lt; omega
      · have hn60 : n ≤ 60 := by have := P.len; omega
        refine (rchild_new (hideIt H) (hideIt P) (hideIt hs2) (hideIt hm) hn60 (by have := P.dp; omega) P.lt).mono ?_
        rintro _ w1 ⟨rfl, v', T, F, N⟩
        refine ⟨rfl, ⟨v', ?_, .inl hp, fun g e => .inr (N g e)⟩, F.mono (fun i _ e => e ▸ hp)⟩
        rw [P.at'.add (c, d), ← P.cut]
        exact T

/-! ### Move -/
set_option maxHeartbeats 400000 in
theorem rmove_none {w : World} {p : Nat} {v : Value} {f : Fo} {a b c d : Int} (H : Hid (RA u tc w p v (f.flat 0))) (hh : Hid (f.has (a, b) = false)) (hm : Hid (f.len ≤ 60)) :
    Calls Tryz.prog 94 #[.pointer (some ⟨p, 1, none⟩), sv a b, sv c d] w fun e w' => e = .returned (.int .i64 3) ∧ w.grownBy w' none := by
  go_enter Tryz.func94, Tryz.ntmps94
  go_upto_region 1 with fail
  obtain ⟨W, hW, X, Y, g0⟩ := twoS w a b c d
  rw [hW]
  clear hW
  have x0 := X.at0
  have x1 := X.at1
  go_wp2_with fail
  refine (at_no (H.out.kept g0) hh.out hm.out).mono ?_
  rintro _ w1 ⟨rfl, g1⟩
  go_wp2
  go_ret
  exact ⟨rfl, gbTrans g0 g1⟩
set_option maxHeartbeats 400000 in
theorem rmove_twice {w : World} {p : Nat} {v : Value} {f : Fo} {a b c d : Int} {D D2 : Fo} {A C A2 C2 : List Kn} {i e j n i2 e2 j2 n2 : Nat} (H : Hid (RA u tc w p v (f.flat 0))) (P : Hid (Pos f (a, b) D A C i e j n)) (P2 : Hid (Pos f (c, d) D2 A2 C2 i2 e2 j2 n2)) (hm : Hid (f.len ≤ 60)) :
    Calls Tryz.prog 94 #[.pointer (some ⟨p, 1, none⟩), sv a b, sv c d] w fun e w' => e = .returned (.int .i64 4) ∧ w.grownBy w' none := by
  go_enter Tryz.func94, Tryz.ntmps94
  go_upto_region 1 with fail
  obtain ⟨W, hW, X, Y, g0⟩ := twoS w a b c d
  rw [hW]
  clear hW
  have x0 := X.at0
  have x1 := X.at1
  go_wp2_with fail
  refine (at_yes (H.out.kept g0) P.out hm.out).mono ?_
  rintro _ w1 ⟨rfl, g1⟩
  clear x0 x1
  have y0 := (Y.kept g1).at0
  have y1 := (Y.kept g1).at1
  have hi0 : ¬ (i : Int) < 0 := by omega
  go_wp2_with fail
  refine (at_yes (H.out.kept (gbTrans g0 g1)) P2.out hm.out).mono ?_
  rintro _ w2 ⟨rfl, g2⟩
  go_wp2
  go_ret
  exact ⟨rfl, gbTrans (gbTrans g0 g1) g2⟩
set_option maxHeartbeats 1000000 in
theorem rmove_new {w : World} {p g cap : Nat} {f : Fo} {a b c d : Int} {D : Fo} {A C : List Kn} {i e j n : Nat} (H : Hid (RA u tc w p (.slice (some ⟨g, 0, none⟩) n cap) (f.flat 0))) (P : Hid (Pos f (a, b) D A C i e j n)) (hh : Hid (f.has (c, d) = false)) (hm : Hid (f.len ≤ 60)) (hn60 : n ≤ 60) (hin : i < n) :
    Calls Tryz.prog 94 #[.pointer (some ⟨p, 1, none⟩), sv a b, sv c d] w fun x w' => x = .returned (.int .i64 0) ∧ RA u tc w' p (.slice (some ⟨g, 0, none⟩) n cap) ((f.flat 0).set i ((c, d), j)) ∧ Fr (fun x => x = g) w w' := by
  have hl : Hid ((f.flat 0).length = n) := hideIt (by rw [Fo.flat_len]; exact P.out.len)
  go_enter Tryz.func94, Tryz.ntmps94
  go_upto_region 1 with fail
  obtain ⟨W, hW, X, Y, g0⟩ := twoS w a b c d
  rw [hW]
  clear hW
  have x0 := X.at0
  have x1 := X.at1
  go_wp2_with fail
  refine (at_yes (H.out.kept g0) P.out hm.out).mono ?_
  rintro _ w1 ⟨rfl, g1⟩
  clear x0 x1
  have y0 := (Y.kept g1).at0
  have y1 := (Y.kept g1).at1
  have hi0 : ¬ (i : Int) < 0 := by omega
  go_wp2_with fail
  refine (at_no (H.out.kept (gbTrans g0 g1)) hh.out hm.out).mono ?_
  rintro _ w2 ⟨rfl, g2⟩
  clear y0 y1
  have G2 := gbTrans (gbTrans g0 g1) g2
  have Y2 := (Y.kept g1).kept g2
  have H2 := H.out.kept G2
  have c2 := H2.cell
  have y0 := Y2.at0
  have y1 := Y2.at1
  obtain ⟨e0, e1, _⟩ := H2.row.el hl.out i _ P.out.hi
  simp only at e0 e1
  have ef := H2.row.frz hl.out
  have hil : (i : Int) < (n : Int) := by omega
  have T : RA u tc ((w2.setCell ⟨g, i * 3, none⟩ (.int .i64 c)).setCell ⟨g, i * 3 + 1, none⟩ (.int .i64 d)).drew p (.slice (some ⟨g, 0, none⟩) n cap) ((f.flat 0).set i ((c, d), j)) := by
    have gs : w2.grownBy ((w2.setCell ⟨g, i * 3, none⟩ (.int .i64 c)).setCell ⟨g, i * 3 + 1, none⟩ (.int .i64 d)) (some g) := gbTrans (gbSetCell _ _ _ _) (gbSetCell _ _ _ _)
    have hgp : g ≠ p := H2.gp rfl
    have l := H2.row.store hl.out i c d j (fun q hq => by rw [P.out.hi] at hq; cases hq; rfl)
    exact RA.kept ⟨(gs.block p H2.plt (by simp; exact fun e => hgp e.symm)).trans H2.box, l⟩ (gbDrew (gbRefl _ none))
  have HT := hideIt T
  have HF : Hid (Fr (fun x => x = g) w ((w2.setCell ⟨g, i * 3, none⟩ (.int .i64 c)).setCell ⟨g, i * 3 + 1, none⟩ (.int .i64 d)).drew) := hideIt ((Fr.grown G2).trans ((Fr.at (O := fun x => x = g) (gbTrans (gbSetCell _ _ _ _) (gbSetCell _ _ _ _)) rfl).trans (Fr.grown (gbDrew (gbRefl _ none)))))
  clear T H2
  go_wp2
  go_region
  all_goals (
    go_wp2
    go_ret
    exact ⟨rfl, HT.out, HF.out⟩)
theorem set_mid {α : Type} (A : List α) (x y : α) (B : List α) (i : Nat) (h : A.length = i) : (A ++ x :: B).set i y = A ++ y :: B := by
  subst h
  rw [List.set_append_right _ _ (Nat.le_refl _)]
  simp
theorem rmove_is {w : World} {p : Nat} {O : Nat → Prop} {f : Fo} (h : RAt u tc w p O f) (G : Good f) (hm : f.len ≤ 60) (a b c d e : Int) (he : f.moveE (a, b) (c, d) = e) :
    Calls Tryz.prog 94 #[.pointer (some ⟨p, 1, none⟩), sv a b, sv c d] w fun x w' => x = .returned (.int .i64 e) ∧ RAt u tc w' p (wide O w w') (f.moveF (a, b) (c, d)) ∧ Fr O w w' := by
  unfold Fo.moveE at he
  unfold Fo.moveF
  obtain ⟨v, H, hp, hg⟩ := h
  cases hs : f.has (a, b) with
  | false =>
    rw [hs] at he
    simp only [Bool.false_eq_true, if_false] at he ⊢
    subst he
    refine (rmove_none (hideIt H) (hideIt hs) (hideIt hm)).mono ?_
    rintro _ w1 ⟨rfl, g1⟩
    exact ⟨rfl, ⟨v, H.kept g1, .inl hp, fun g e => .inl (hg g e)⟩, Fr.grown g1⟩
  | true =>
    rw [hs] at he
    simp only [if_true] at he ⊢
    obtain ⟨D, A, C, i, e', j, n, P, hD⟩ := pos_of G hs
    cases hs2 : f.has (c, d) with
    | true =>
      rw [hs2] at he
      simp only [if_true] at he ⊢
      subst he
      obtain ⟨D2, A2, C2, i2, e2, j2, n2, P2, _⟩ := pos_of G hs2
      refine (rmove_twice (hideIt H) (hideIt P) (hideIt P2) (hideIt hm)).mono ?_
      rintro _ w1 ⟨rfl, g1⟩
      exact ⟨rfl, ⟨v, H.kept g1, .inl hp, fun g e => .inl (hg g e)⟩, Fr.grown g1⟩
    | false =>
      rw [hs2] at he
      simp only [Bool.false_eq_true, if_false] at he ⊢
      subst he
      have hl : (f.flat 0).length = n := by rw [Fo.flat_len]; exact P.len
      rcases H.row.form hl with ⟨_, h0⟩ | ⟨g, cap, rfl, _⟩
      · have := P.lt; omega
      · have hn60 : n ≤ 60 := by have := P.len; omega
        refine (rmove_new (hideIt H) (hideIt P) (hideIt hs2) (hideIt hm) hn60 P.lt).mono ?_
        rintro _ w1 ⟨rfl, T, F⟩
        refine ⟨rfl, ⟨_, ?_, .inl hp, fun g e => .inl (hg g e)⟩, F.mono (fun i _ e => e ▸ hg g rfl)⟩
        rw [P.at'.mv (c, d)]
        have e1 : (f.flat 0).set i ((c, d), j) = A ++ ((c, d), j) :: (D.flat (j + 1) ++ C) := by rw [P.at'.eq]; exact set_mid A _ _ _ i P.ai
        rw [e1] at T
        exact T

end T9
end Go.Proofs.YtdnoidnpiaadaaaGreat

/-
  THE DOCUMENT'S SIDE (donjonref09): Drop.
-/
namespace Go.Proofs.YtdnoidnpiaadaaaGreat
set_option maxRecDepth 10000
namespace T9
open Go.RowKit
set_option linter.unusedVariables false
variable {u : Value} {tc : TypeId}

namespace M
/-- A row without the knot i, those between i and e one level up; the first one has the number k. -/
def dr (i e : Nat) : List Kn → Nat → List Kn
  | [], _ => []
  | x :: l, k => (if k = i then [] else [if i < k ∧ k < e then (x.1, x.2 - 1) else x]) ++ dr i e l (k + 1)
theorem dr_app (i e : Nat) (l m : List Kn) (k : Nat) : dr i e (l ++ m) k = dr i e l k ++ dr i e m (k + l.length) := by
  induction l generalizing k with
  | nil => simp [dr]
  | cons x l ih => simp only [List.cons_append, dr, ih, List.length_cons]; rw [List.append_assoc, show k + (l.length + 1) = k + 1 + l.length by omega]
theorem dr_lo (i e : Nat) (l : List Kn) (k : Nat) (h : k + l.length ≤ i) : dr i e l k = l := by
  induction l generalizing k with
  | nil => rfl
  | cons x l ih =>
    simp only [List.length_cons] at h
    simp only [dr]
    rw [if_neg (by omega), if_neg (by omega), ih (k + 1) (by omega)]
    rfl
theorem dr_mid (i e : Nat) (l : List Kn) (k : Nat) (h : i < k) (h2 : k + l.length ≤ e) : dr i e l k = l.map fun x => (x.1, x.2 - 1) := by
  induction l generalizing k with
  | nil => rfl
  | cons x l ih =>
    simp only [List.length_cons] at h2
    simp only [dr]
    rw [if_neg (by omega), if_pos (by omega), ih (k + 1) (by omega) (by omega)]
    rfl
theorem dr_hi (i e : Nat) (l : List Kn) (k : Nat) (h : i < k) (h2 : e ≤ k) : dr i e l k = l := by
  induction l generalizing k with
  | nil => rfl
  | cons x l ih =>
    simp only [dr]
    rw [if_neg (by omega), if_neg (by omega), ih (k + 1) (by omega) (by omega)]
    rfl
theorem dr_take (i e : Nat) (L : List Kn) (c : Nat) (x : Kn) (h : L[c]? = some x) : dr i e (L.take (c + 1)) 0 = dr i e (L.take c) 0 ++ (if c = i then [] else [if i < c ∧ c < e then (x.1, x.2 - 1) else x]) := by
  have hl : (L.take c).length = c := by rw [List.length_take]; have := (List.getElem?_eq_some_iff.1 h).1; omega
  rw [List.take_add_one, h, dr_app, hl]
  simp [dr]
theorem dr_len (i e : Nat) (l : List Kn) (k : Nat) : (dr i e l k).length ≤ l.length := by
  induction l generalizing k with
  | nil => simp [dr]
  | cons x l ih =>
    simp only [dr, List.length_append, List.length_cons]
    have := ih (k + 1)
    split <;> simp <;> omega
end M
theorem Pos.dr {f : Fo} {s : Int × Int} {d : Fo} {A C : List Kn} {i e j n : Nat} (P : Pos f s d A C i e j n) : M.dr i e (f.flat 0) 0 = (Fo.drop s f).flat 0 := by
  have h1 := P.ei
  rw [P.at'.drop, P.at'.eq, M.dr_app, M.dr_lo i e A 0 (by rw [P.ai]; omega), P.ai, Fo.flat_up d j]
  congr 1
  simp only [M.dr, Nat.zero_add, if_true, List.nil_append]
  rw [M.dr_app, M.dr_mid i e _ (i + 1) (by omega) (by rw [Fo.flat_len]; omega), M.dr_hi i e C _ (by omega) (by rw [Fo.flat_len]; omega)]

/-- A knot in a box. -/
structure KBox (w : World) (x : Nat) (a b : Int) (d : Nat) : Prop where
  at0 : w.cell? ⟨x, 0, none⟩ = some (.int .i64 a)
  at1 : w.cell? ⟨x, 1, none⟩ = some (.int .i64 b)
  at2 : w.cell? ⟨x, 2, none⟩ = some (.int .i64 d)
  lt : x < w.heap.size
  fr : ∀ i, w.frozen? ⟨x, i, none⟩ = false
theorem kboxNew (w : World) (a b : Int) (d : Nat) : ∃ W, w.alloc (.cells #[.int .i64 a, .int .i64 b, .int .i64 d] 104) = W ∧ KBox W w.heap.size a b d ∧ w.grownBy W none := ⟨_, rfl, ⟨by simp, by simp, by simp, by simp, fun i => by simp⟩, gbAlloc _ _ _⟩
theorem KBox.dec {w : World} {x : Nat} {a b : Int} {d : Nat} (h : KBox w x a b d) (d' : Nat) : ∃ W, w.setCell ⟨x, 2, none⟩ (.int .i64 d') = W ∧ KBox W x a b d' ∧ w.grownBy W (some x) :=
  ⟨_, rfl, ⟨(World.cell?_setCell_other _ _ _ _ (by simp)).trans h.at0, (World.cell?_setCell_other _ _ _ _ (by simp)).trans h.at1, World.cell?_setCell_same _ _ _ h.at2, by simpa [World.setCell] using h.lt, fun i => by simpa using h.fr i⟩, gbSetCell _ _ _ _⟩

set_option maxHeartbeats 400000 in
theorem rdrop_none {w : World} {p : Nat} {v : Value} {f : Fo} {a b : Int} (H : Hid (RA u tc w p v (f.flat 0))) (hh : Hid (f.has (a, b) = false)) (hm : Hid (f.len ≤ 60)) :
    Calls Tryz.prog 97 #[.pointer (some ⟨p, 1, none⟩), sv a b] w fun e w' => e = .returned (.int .i64 3) ∧ w.grownBy w' none := by
  go_enter Tryz.func97, Tryz.ntmps97
  go_upto_region 1 with fail
  obtain ⟨W, hW, X, g0⟩ := sboxNew w a b
  rw [hW]
  clear hW
  have x0 := X.at0
  have x1 := X.at1
  go_wp2_with fail
  refine (at_no (H.out.kept g0) hh.out hm.out).mono ?_
  rintro _ w1 ⟨rfl, g1⟩
  go_wp2
  go_ret
  exact ⟨rfl, gbTrans g0 g1⟩

set_option maxRecDepth 10000 in
set_option maxHeartbeats 4000000 in
theorem rdrop_core {w : World} {p g cap : Nat} {f : Fo} {a b : Int} {D : Fo} {A C : List Kn} {i e j n : Nat} (H : Hid (RA u tc w p (.slice (some ⟨g, 0, none⟩) n cap) (f.flat 0))) (P : Hid (Pos f (a, b) D A C i e j n)) (hm : Hid (f.len ≤ 60)) (hn60 : n ≤ 60) (hin : i < n) (hie : i < e) (hen : e ≤ n) :
    Calls Tryz.prog 97 #[.pointer (some ⟨p, 1, none⟩), sv a b] w fun x w' => x = .returned (.int .i64 0) ∧ ∃ v', RA u tc w' p v' (M.dr i e (f.flat 0) 0) ∧ Fr (fun x => x = p) w w' ∧ ∀ g, v'.ownBlock = some g → w.heap.size ≤ g ∧ g < w'.heap.size := by
  have hl : Hid ((f.flat 0).length = n) := hideIt (by rw [Fo.flat_len]; exact P.out.len)
  go_enter Tryz.func97, Tryz.ntmps97
  go_upto_region 1 with fail
  obtain ⟨W, hW, X, g0⟩ := sboxNew w a b
  rw [hW]
  clear hW
  have x0 := X.at0
  have x1 := X.at1
  go_wp2_with fail
  refine (at_yes (H.out.kept g0) P.out hm.out).mono ?_
  rintro _ w1 ⟨rfl, g1⟩
  have hi0 : ¬ (i : Int) < 0 := by omega
  go_wp2_with fail
  refine (end_is (H.out.kept (gbTrans g0 g1)) P.out hm.out).mono ?_
  rintro _ w2 ⟨rfl, g2⟩
  have G2 := gbTrans (gbTrans g0 g1) g2
  clear x0 x1
  go_wp2
  go_loopg [7, 8] n (fun y v k wr => ∃ c : Nat, c + y = n ∧ k = .int .i64 c ∧ Hid (Lst3 wr w.heap.size v (M.dr i e ((f.flat 0).take c) 0)) ∧ w.grownBy wr none)
  case atStart => exact ⟨0, by omega, rfl, hideIt (by rw [List.take_zero]; exact Lst3.nil _ _), G2⟩
  case round =>
    obtain ⟨c, hc, rfl, HL, gw⟩ := hrel
    have Hr := hideIt (H.out.kept gw)
    have c0 := Hr.out.cell
    by_cases hcn : c < n
    · have hlt' : (c : Int) < (n : Int) := by omega
      obtain ⟨⟨⟨p1, p2⟩, q⟩, hq⟩ : ∃ q, (f.flat 0)[c]? = some q := ⟨_, List.getElem?_eq_getElem (by rw [hl.out]; exact hcn)⟩
      obtain ⟨e0, e1, e2⟩ := Hr.out.row.el hl.out c _ hq
      simp only at e0 e1 e2
      have HQ := hideIt hq
      have hdt := hideIt (M.dr_take i e _ c _ hq)
      have hown := HL.out.lt
      have hdl : Hid ((M.dr i e ((f.flat 0).take c) 0).length + 1 ≤ 100000) := hideIt (by have h1 := M.dr_len i e ((f.flat 0).take c) 0; have h2 := List.length_take_le c (f.flat 0); omega)
      go_upto_region 10 with fail
      obtain ⟨W3, hW3, K3, g3⟩ := kboxNew wr p1 p2 q
      rw [hW3]
      clear hW3 e0 e1 e2
      have G3 := gbTrans gw g3
      by_cases hci : c = i
      · have h1 : ¬ (i : Int) < (c : Int) := by omega
        have h1' : ((c : Int) != (i : Int)) = false := by simp [hci]
        have Hci := hideIt hci
        clear hq hci c0
        go_wp2
        go_roundg (gk - 1)
        case rel => exact ⟨c + 1, by omega, by go_num, hideIt (by rw [hdt.out, if_pos Hci.out, List.append_nil]; exact HL.out.kept g3), G3⟩
        case measure => omega
      · have h1' : ((c : Int) != (i : Int)) = true := by simp; omega
        by_cases hmid : i < c ∧ c < e
        · obtain ⟨m1, m2⟩ := hmid
          have m1' : (i : Int) < (c : Int) := by omega
          have m2' : (c : Int) < (e : Int) := by omega
          have hqj := P.out.hin c _ m1 m2 hq
          simp only at hqj
          obtain ⟨q1, hq1⟩ : ∃ q1, q = q1 + 1 := ⟨q - 1, by omega⟩
          subst hq1
          have hqq : ((q1 + 1 : Nat) : Int) - 1 = (q1 : Int) := by omega
          have hqs := P.out.dp
          have hqb : q1 ≤ 1000 := by have := Good.depth hm.out _ (List.mem_of_getElem? hq); simp only at this; omega
          have b2 := K3.at2
          have bf := K3.fr
          have hite : Hid ((if c = i then [] else [if i < c ∧ c < e then (((p1, p2), q1 + 1 - 1) : Kn) else ((p1, p2), q1 + 1)]) = [((p1, p2), q1)]) := hideIt (by rw [if_neg hci, if_pos ⟨m1, m2⟩]; rfl)
          clear hq hci hqj hqs c0
          go_upto_region 12 with fail
          obtain ⟨W4, hW4, K4, g4⟩ := K3.dec q1
          rw [hW4]
          clear hW4 b2 bf
          have G4 : w.grownBy W4 none := gbNew (gbTrans (gbAny G3 _) g4) gw.size
          have b0 := K4.at0
          have b1 := K4.at1
          have b2 := K4.at2
          have HL4 : Hid (Lst3 W4 w.heap.size u7 (M.dr i e ((f.flat 0).take c) 0)) := hideIt (World.ownsRow.kept (HL.out.kept g3) g4 (by
            cases ev : u7.ownBlock with
            | none => exact .inl rfl
            | some z => exact .inr (by have := (hown z ev).2; simp; omega)))
          have ga := gbAlloc W4 (.cells #[.int .i64 p1, .int .i64 p2, .int .i64 q1] 104) none
          have HL5 := hideIt (HL4.out.kept ga)
          have HR5 : Hid (∀ ad, some (⟨W4.heap.size, 0, none⟩ : Addr) = some ad → Row3 (W4.alloc (.cells #[.int .i64 p1, .int .i64 p2, .int .i64 q1] 104)) ad [((p1, p2), q1)]) := hideIt (by rintro ad ⟨⟩; exact row3One W4 p1 p2 q1)
          have Hno5 : Hid (some (⟨W4.heap.size, 0, none⟩ : Addr) = none → 1 = 0) := hideIt (by simp)
          have hB5 : Hid (w.heap.size ≤ (W4.alloc (.cells #[.int .i64 p1, .int .i64 p2, .int .i64 q1] 104)).heap.size) := hideIt (gbTrans G4 ga).size
          go_wp2_with (at_builtin; refine wpList_append3 rfl (.tmp 49) (.tmp 51) rfl w.heap.size u7 (M.dr i e ((f.flat 0).take c) 0) rfl HL5.out (some ⟨W4.heap.size, 0, none⟩) 1 1 [((p1, p2), q1)] rfl rfl Hno5.out HR5.out hdl.out hB5.out ?_; intro v6 w6 l6 g6 o6; have HL6 : Hid (Lst3 w6 w.heap.size v6 (M.dr i e ((f.flat 0).take c) 0 ++ [((p1, p2), q1)])) := hideIt l6; clear l6)
          have G6 : w.grownBy w6 none := gbNews (gbTrans (gbAny (gbTrans G4 ga) _) g6) (fun k ek => (hown k ek).1)
          go_roundg (gk - 1)
          case rel => exact ⟨c + 1, by omega, by go_num, hideIt (by rw [hdt.out, hite.out]; exact HL6.out), G6⟩
          case measure => omega
        · have hite : Hid ((if c = i then [] else [if i < c ∧ c < e then (((p1, p2), q - 1) : Kn) else ((p1, p2), q)]) = [((p1, p2), q)]) := hideIt (by rw [if_neg hci, if_neg hmid])
          have hqb : q ≤ 1000 := by have := Good.depth hm.out _ (List.mem_of_getElem? hq); exact this
          have b0 := K3.at0
          have b1 := K3.at1
          have b2 := K3.at2
          have HL4 := hideIt (HL.out.kept g3)
          have ga := gbAlloc W3 (.cells #[.int .i64 p1, .int .i64 p2, .int .i64 q] 104) none
          have HL5 := hideIt (HL4.out.kept ga)
          have HR5 : Hid (∀ ad, some (⟨W3.heap.size, 0, none⟩ : Addr) = some ad → Row3 (W3.alloc (.cells #[.int .i64 p1, .int .i64 p2, .int .i64 q] 104)) ad [((p1, p2), q)]) := hideIt (by rintro ad ⟨⟩; exact row3One W3 p1 p2 q)
          have Hno5 : Hid (some (⟨W3.heap.size, 0, none⟩ : Addr) = none → 1 = 0) := hideIt (by simp)
          have hB5 : Hid (w.heap.size ≤ (W3.alloc (.cells #[.int .i64 p1, .int .i64 p2, .int .i64 q] 104)).heap.size) := hideIt (gbTrans G3 ga).size
          by_cases hlo : i < c
          · have m1' : (i : Int) < (c : Int) := by omega
            have m2' : ¬ (c : Int) < (e : Int) := by omega
            clear hq hci hmid c0
            go_wp2_with (at_builtin; refine wpList_append3 rfl (.tmp 49) (.tmp 51) rfl w.heap.size u7 (M.dr i e ((f.flat 0).take c) 0) rfl HL5.out (some ⟨W3.heap.size, 0, none⟩) 1 1 [((p1, p2), q)] rfl rfl Hno5.out HR5.out hdl.out hB5.out ?_; intro v6 w6 l6 g6 o6; have HL6 : Hid (Lst3 w6 w.heap.size v6 (M.dr i e ((f.flat 0).take c) 0 ++ [((p1, p2), q)])) := hideIt l6; clear l6)
            have G6 : w.grownBy w6 none := gbNews (gbTrans (gbAny (gbTrans G3 ga) _) g6) (fun k ek => (hown k ek).1)
            go_roundg (gk - 1)
            case rel => exact ⟨c + 1, by omega, by go_num, hideIt (by rw [hdt.out, hite.out]; exact HL6.out), G6⟩
            case measure => omega
          · have m1' : ¬ (i : Int) < (c : Int) := by omega
            clear hq hci hmid c0
            go_wp2_with (at_builtin; refine wpList_append3 rfl (.tmp 49) (.tmp 51) rfl w.heap.size u7 (M.dr i e ((f.flat 0).take c) 0) rfl HL5.out (some ⟨W3.heap.size, 0, none⟩) 1 1 [((p1, p2), q)] rfl rfl Hno5.out HR5.out hdl.out hB5.out ?_; intro v6 w6 l6 g6 o6; have HL6 : Hid (Lst3 w6 w.heap.size v6 (M.dr i e ((f.flat 0).take c) 0 ++ [((p1, p2), q)])) := hideIt l6; clear l6)
            have G6 : w.grownBy w6 none := gbNews (gbTrans (gbAny (gbTrans G3 ga) _) g6) (fun k ek => (hown k ek).1)
            go_roundg (gk - 1)
            case rel => exact ⟨c + 1, by omega, by go_num, hideIt (by rw [hdt.out, hite.out]; exact HL6.out), G6⟩
            case measure => omega
    · have hlt' : ¬ (c : Int) < (n : Int) := by omega
      obtain ⟨kk, hkk⟩ : ∃ kk, (M.dr i e ((f.flat 0).take c) 0).length = kk := ⟨_, rfl⟩
      obtain ⟨x7, y7, hv7⟩ := HL.out.any hkk
      subst hv7
      have hT := H.out.store gw HL.out.zero (fun g' eg => (HL.out.lt g' eg).1)
      rw [List.take_of_length_le (by rw [hl.out]; omega)] at hT
      have HT := hideIt hT
      have HN : Hid (∀ g', (Value.slice x7 kk y7).ownBlock = some g' → w.heap.size ≤ g' ∧ g' < (wr.setCell ⟨p, 1, none⟩ (.slice x7 kk y7)).heap.size) := hideIt (fun g' eg => ⟨(HL.out.lt g' eg).1, by simpa [World.setCell] using (HL.out.lt g' eg).2⟩)
      have fz := Hr.out.frz
      clear hT hkk
      go_wp2
      go_ret
      exact ⟨rfl, _, HT.out.1, (Fr.grown gw).trans (Fr.at HT.out.2 rfl), HN.out⟩

theorem rdrop_is {w : World} {p : Nat} {O : Nat → Prop} {f : Fo} (h : RAt u tc w p O f) (G : Good f) (hm : f.len ≤ 60) (a b e : Int) (he : f.dropE (a, b) = e) :
    Calls Tryz.prog 97 #[.pointer (some ⟨p, 1, none⟩), sv a b] w fun x w' => x = .returned (.int .i64 e) ∧ RAt u tc w' p (wide O w w') (f.dropF (a, b)) ∧ Fr O w w' := by
  unfold Fo.dropE at he
  unfold Fo.dropF
  obtain ⟨v, H, hp, hg⟩ := h
  cases hs : f.has (a, b) with
  | false =>
    rw [hs] at he
    simp only [Bool.false_eq_true, if_false] at he ⊢
    subst he
    refine (rdrop_none (hideIt H) (hideIt hs) (hideIt hm)).mono ?_
    rintro _ w1 ⟨rfl, g1⟩
    exact ⟨rfl, ⟨v, H.kept g1, .inl hp, fun g e => .inl (hg g e)⟩, Fr.grown g1⟩
  | true =>
    rw [hs] at he
    simp only [if_true] at he ⊢
    subst he
    obtain ⟨D, A, C, i, e', j, n, P, hD⟩ := pos_of G hs
    have hl : (f.flat 0).length = n := by rw [Fo.flat_len]; exact P.len
    rcases H.row.form hl with ⟨_, h0⟩ | ⟨g, cap, rfl, _⟩
    · have := P.lt; omega
    · have hn60 : n ≤ 60 := by have := P.len; omega
      refine (rdrop_core (hideIt H) (hideIt P) (hideIt hm) hn60 P.lt (by have := P.ei; omega) P.hen).mono ?_
      rintro _ w1 ⟨rfl, v', T, F, N⟩
      refine ⟨rfl, ⟨v', ?_, .inl hp, fun g e => .inr (N g e)⟩, F.mono (fun i _ e => e ▸ hp)⟩
      rw [← P.dr]
      exact T

end T9
end Go.Proofs.YtdnoidnpiaadaaaGreat
