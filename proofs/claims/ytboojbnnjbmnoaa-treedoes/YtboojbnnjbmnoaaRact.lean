/-
  THE DOCUMENT'S SIDE (donjonref09): Has, Root, Child, Move.
-/
import Derived.Test.YtboojbnnjbmnoaaRat
import Derived.Test.YtboojbnnjbmnoaaGone
namespace Go.Proofs.Ytboojbnnjbmnoaa
open Go.RowKit
set_option linter.unusedVariables false

theorem Good.depth {f : Fo} (hm : f.len ≤ 60) : ∀ x ∈ f.flat 0, x.2 ≤ 1000 := fun x hx => by
  have := Fo.flat_lt f 0 x hx
  unfold Fo.len at hm
  omega
theorem flat_out {f : Fo} {s : Int × Int} (h : f.has s = false) : ∀ x ∈ f.flat 0, x.1 ≠ s := fun x hx e => by
  refine Fo.has_not.1 h ?_
  rw [← Fo.flat_fst f 0, ← e]
  exact List.mem_map_of_mem hx

/-- What the row tells of a slot that is there. -/
structure Pos (f : Fo) (s : Int × Int) (d : Fo) (A C : List Kn) (i e j n : Nat) : Prop where
  at' : Fo.At f 0 s d A C j
  len : f.len = n
  ai : A.length = i
  ei : i + 1 + d.pre.length = e
  hi : (f.flat 0)[i]? = some (s, j)
  hf : ∀ k x, k < i → (f.flat 0)[k]? = some x → x.1 ≠ s
  hen : e ≤ n
  hin : ∀ c x, i < c → c < e → (f.flat 0)[c]? = some x → j < x.2
  hend : ∀ x, (f.flat 0)[e]? = some x → x.2 ≤ j
  kin : ∀ c, i + 1 + c < e → (f.flat 0)[i + 1 + c]? = (d.flat (j + 1))[c]?
theorem pos_of {f : Fo} (G : Good f) {s : Int × Int} (h : f.has s = true) : ∃ d A C i e j n, Pos f s d A C i e j n ∧ f.sub s = some d := by
  obtain ⟨d, hd⟩ := Fo.sub_some.2 (Fo.has_iff.1 h)
  obtain ⟨A, C, j, H⟩ := Fo.at_of G.nd hd 0
  have hl := Fo.flat_len f 0
  have hdl := Fo.flat_len d (j + 1)
  have eq := H.eq
  have hlen : A.length + (1 + (d.pre.length + C.length)) = f.pre.length := by
    rw [← hl, eq]; simp [hdl]; omega
  have hkin : ∀ c, c < d.pre.length → (f.flat 0)[A.length + 1 + c]? = (d.flat (j + 1))[c]? := fun c hc => by
    rw [eq, List.getElem?_append_right (by omega), show A.length + 1 + c - A.length = c + 1 by omega, List.getElem?_cons_succ, List.getElem?_append_left (by rw [hdl]; exact hc)]
  refine ⟨d, A, C, A.length, A.length + 1 + d.pre.length, j, f.len, ⟨H, rfl, rfl, rfl, ?_, ?_, ?_, ?_, ?_, fun c hc => hkin c (by omega)⟩, hd⟩
  · rw [eq, List.getElem?_append_right (Nat.le_refl _)]; simp
  · intro k x hk hx
    rw [eq, List.getElem?_append_left hk] at hx
    exact H.out x (List.mem_of_getElem? hx)
  · unfold Fo.len; omega
  · intro c x h1 h2 hx
    obtain ⟨c', rfl⟩ : ∃ c', c = A.length + 1 + c' := ⟨c - (A.length + 1), by omega⟩
    rw [hkin c' (by omega)] at hx
    have := Fo.flat_ge d (j + 1) x (List.mem_of_getElem? hx)
    omega
  · intro x hx
    rw [eq, List.getElem?_append_right (by omega), show A.length + 1 + d.pre.length - A.length = d.pre.length + 1 by omega, List.getElem?_cons_succ, List.getElem?_append_right (by rw [hdl]; exact Nat.le_refl _), hdl, Nat.sub_self] at hx
    exact H.hd x (by rw [List.head?_eq_getElem?]; exact hx)

/-- at, whatever it tells. -/
theorem at_yes {w : World} {p : Nat} {v : Value} {f : Fo} {a b : Int} {d : Fo} {A C : List Kn} {i e j n : Nat} (H : RA w p v (f.flat 0)) (P : Pos f (a, b) d A C i e j n) (hm : f.len ≤ 60) :
    Calls Try.prog 35 #[.pointer (some ⟨p, 0, none⟩), sv a b] w fun x w' => x = .returned (.int .i64 i) ∧ w.grownBy w' none := by
  have hl : (f.flat 0).length = n := by rw [Fo.flat_len]; exact P.len
  obtain ⟨x, y, rfl⟩ := H.row.any hl
  exact rat_yes (hideIt H) (hideIt hl) (by have := P.len; omega) a b j (hideIt P.hi) (hideIt P.hf)
theorem at_no {w : World} {p : Nat} {v : Value} {f : Fo} {a b : Int} (H : RA w p v (f.flat 0)) (h : f.has (a, b) = false) (hm : f.len ≤ 60) :
    Calls Try.prog 35 #[.pointer (some ⟨p, 0, none⟩), sv a b] w fun x w' => x = .returned (.int .i64 (-1)) ∧ w.grownBy w' none := by
  have hl : (f.flat 0).length = f.len := by rw [Fo.flat_len]; rfl
  obtain ⟨x, y, rfl⟩ := H.row.any hl
  exact rat_no (hideIt H) (hideIt hl) (by omega) a b (hideIt (flat_out h))
theorem end_is {w : World} {p : Nat} {v : Value} {f : Fo} {s : Int × Int} {d : Fo} {A C : List Kn} {i e j n : Nat} (H : RA w p v (f.flat 0)) (P : Pos f s d A C i e j n) (hm : f.len ≤ 60) :
    Calls Try.prog 37 #[.pointer (some ⟨p, 0, none⟩), .int .i64 i] w fun x w' => x = .returned (.int .i64 e) ∧ w.grownBy w' none := by
  have hl : (f.flat 0).length = n := by rw [Fo.flat_len]; exact P.len
  obtain ⟨x, y, rfl⟩ := H.row.any hl
  exact rend_is (hideIt H) (hideIt hl) (by have := P.len; omega) s j (hideIt P.hi) (by have := P.ei; omega) P.hen (hideIt P.hin) (hideIt P.hend) (hideIt (Good.depth hm))

set_option maxHeartbeats 400000 in
theorem rhas_is {w : World} {p : Nat} {O : Nat → Prop} {f : Fo} (h : RAt w p O f) (G : Good f) (hm : f.len ≤ 60) (a b : Int) (v : Bool) (hv : f.has (a, b) = v) :
    Calls Try.prog 27 #[.pointer (some ⟨p, 0, none⟩), sv a b] w fun e w' => e = .returned (.bool v) ∧ w.grownBy w' none := by
  obtain ⟨vl, H, _⟩ := h
  have H := hideIt H
  have hm := hideIt hm
  cases v with
  | true =>
    obtain ⟨d, A, C, i, e, j, n, P, _⟩ := pos_of G hv
    have HP := hideIt P
    clear hv P G
    go_enter Try.func27, Try.ntmps27
    go_upto_region 1 with fail
    obtain ⟨W, hW, X, g0⟩ := sboxNew w a b
    rw [hW]
    clear hW
    have x0 := X.at0
    have x1 := X.at1
    go_wp2_with fail
    refine (at_yes (H.out.kept g0) HP.out hm.out).mono ?_
    rintro _ w1 ⟨rfl, g1⟩
    go_wp2
    go_ret
    exact ⟨rfl, gbTrans g0 g1⟩
  | false =>
    have HV := hideIt hv
    clear hv G
    go_enter Try.func27, Try.ntmps27
    go_upto_region 1 with fail
    obtain ⟨W, hW, X, g0⟩ := sboxNew w a b
    rw [hW]
    clear hW
    have x0 := X.at0
    have x1 := X.at1
    go_wp2_with fail
    refine (at_no (H.out.kept g0) HV.out hm.out).mono ?_
    rintro _ w1 ⟨rfl, g1⟩
    go_wp2
    go_ret
    exact ⟨rfl, gbTrans g0 g1⟩

/-! ### Root -/
set_option maxHeartbeats 400000 in
theorem rroot_twice {w : World} {p : Nat} {v : Value} {f : Fo} {a b : Int} {d : Fo} {A C : List Kn} {i e j n : Nat} (H : Hid (RA w p v (f.flat 0))) (P : Hid (Pos f (a, b) d A C i e j n)) (hm : Hid (f.len ≤ 60)) :
    Calls Try.prog 22 #[.pointer (some ⟨p, 0, none⟩), sv a b] w fun e w' => e = .returned (.int .i64 4) ∧ w.grownBy w' none := by
  go_enter Try.func22, Try.ntmps22
  go_upto_region 1 with fail
  obtain ⟨W, hW, X, g0⟩ := sboxNew w a b
  rw [hW]
  clear hW
  have x0 := X.at0
  have x1 := X.at1
  go_wp2_with fail
  refine (at_yes (H.out.kept g0) P.out hm.out).mono ?_
  rintro _ w1 ⟨rfl, g1⟩
  go_wp2
  go_ret
  exact ⟨rfl, gbTrans g0 g1⟩

set_option maxHeartbeats 1000000 in
theorem rroot_new {w : World} {p n cap : Nat} {xo : Option Addr} {f : Fo} {a b : Int} (H : Hid (RA w p (.slice xo n cap) (f.flat 0))) (hn : Hid ((f.flat 0).length = n)) (hh : Hid (f.has (a, b) = false)) (hm : Hid (f.len ≤ 60)) (hn60 : n ≤ 60) :
    Calls Try.prog 22 #[.pointer (some ⟨p, 0, none⟩), sv a b] w fun e w' => e = .returned (.int .i64 0) ∧ ∃ v', RA w' p v' (f.flat 0 ++ [((a, b), 0)]) ∧ Fr (fun x => x = p) w w' ∧ ∀ g, v'.ownBlock = some g → w.heap.size ≤ g ∧ g < w'.heap.size := by
  go_enter Try.func22, Try.ntmps22
  go_upto_region 1 with fail
  obtain ⟨W, hW, X, g0⟩ := sboxNew w a b
  rw [hW]
  clear hW
  have x0 := X.at0
  have x1 := X.at1
  go_wp2_with fail
  refine (at_no (H.out.kept g0) hh.out hm.out).mono ?_
  rintro _ w1 ⟨rfl, g1⟩
  have G1 := gbTrans g0 g1
  have gd := gbDrew (gbRefl w1 none)
  have hC : ∀ w', w1.grownBy w' none → w'.cell? ⟨p, 0, none⟩ = some (.slice xo n cap) := fun w' g' => (H.out.kept (gbTrans G1 g')).cell
  have hX0 : ∀ w', w1.grownBy w' none → w'.cell? ⟨w.heap.size, 0, none⟩ = some (.int .i64 a) := fun w' g' => ((X.kept g1).kept g').at0
  have hX1 : ∀ w', w1.grownBy w' none → w'.cell? ⟨w.heap.size, 1, none⟩ = some (.int .i64 b) := fun w' g' => ((X.kept g1).kept g').at1
  have HPt := rput_is (H.out.kept (gbTrans G1 gd)) hn.out (by omega) (Nat.le_refl n) a b 0
  clear x0 x1
  go_wp2
  have c1 := hC w1 (gbRefl _ _)
  have x0 := hX0 w1 (gbRefl _ _)
  have x1 := hX1 w1 (gbRefl _ _)
  clear hC hX0 hX1
  go_region_with ((go_at_call 36; refine HPt.mono ?_; rintro _ w2 ⟨rfl, v', T, F, N⟩))
  all_goals (
    have e : (f.flat 0).take n ++ (((a, b), 0) :: (f.flat 0).drop n) = f.flat 0 ++ [((a, b), 0)] := by rw [List.take_of_length_le (by rw [hn.out]; exact Nat.le_refl _), List.drop_eq_nil_of_le (by rw [hn.out]; exact Nat.le_refl _)]
    rw [e] at T
    have HT := hideIt T
    have HF : Hid (Fr (fun x => x = p) w w2) := hideIt ((Fr.grown (gbTrans G1 gd)).trans F)
    have HN : Hid (∀ g, v'.ownBlock = some g → w.heap.size ≤ g ∧ g < w2.heap.size) := hideIt (fun g hg => ⟨Nat.le_trans (gbTrans G1 gd).size (N g hg).1, (N g hg).2⟩)
    clear T F N e
    go_wp2
    go_ret
    exact ⟨rfl, v', HT.out, HF.out, HN.out⟩)

theorem rroot_is {w : World} {p : Nat} {O : Nat → Prop} {f : Fo} (h : RAt w p O f) (G : Good f) (hm : f.len ≤ 60) (a b e : Int) (he : f.rootE (a, b) = e) :
    Calls Try.prog 22 #[.pointer (some ⟨p, 0, none⟩), sv a b] w fun x w' => x = .returned (.int .i64 e) ∧ RAt w' p (wide O w w') (f.rootF (a, b)) ∧ Fr O w w' := by
  unfold Fo.rootE at he
  unfold Fo.rootF
  obtain ⟨v, H, hp, hg⟩ := h
  cases hs : f.has (a, b) with
  | true =>
    rw [hs] at he
    simp only [if_true] at he ⊢
    subst he
    obtain ⟨d, A, C, i, e, j, n, P, _⟩ := pos_of G hs
    refine (rroot_twice (hideIt H) (hideIt P) (hideIt hm)).mono ?_
    rintro _ w1 ⟨rfl, g1⟩
    exact ⟨rfl, ⟨v, H.kept g1, .inl hp, fun g e => .inl (hg g e)⟩, Fr.grown g1⟩
  | false =>
    rw [hs] at he
    simp only [Bool.false_eq_true, if_false] at he ⊢
    subst he
    have hl : (f.flat 0).length = f.len := by rw [Fo.flat_len]; rfl
    obtain ⟨x, y, rfl⟩ := H.row.any hl
    refine (rroot_new (hideIt H) (hideIt hl) (hideIt hs) (hideIt hm) hm).mono ?_
    rintro _ w1 ⟨rfl, v', T, F, N⟩
    refine ⟨rfl, ⟨v', ?_, .inl hp, fun g e => .inr (N g e)⟩, F.mono (fun i _ e => e ▸ hp)⟩
    have e : (Fo.app f (Fo.one (a, b))).flat 0 = f.flat 0 ++ [((a, b), 0)] := by rw [Fo.flat_app]; rfl
    rw [e]; exact T

/-! ### Child -/
set_option maxHeartbeats 400000 in
theorem rchild_none {w : World} {p : Nat} {v : Value} {f : Fo} {a b c d : Int} (H : Hid (RA w p v (f.flat 0))) (hh : Hid (f.has (a, b) = false)) (hm : Hid (f.len ≤ 60)) :
    Calls Try.prog 23 #[.pointer (some ⟨p, 0, none⟩), sv a b, sv c d] w fun e w' => e = .returned (.int .i64 3) ∧ w.grownBy w' none := by
  go_enter Try.func23, Try.ntmps23
  go_upto_region 1 with fail
  obtain ⟨W, hW, X, Y, g0⟩ := twoS w a b c d
  rw [hW]
  clear hW
  have x0 := X.at0
  have x1 := X.at1
  go_wp2_with fail
  refine (at_no (H.out.kept g0) hh.out hm.out).mono ?_
  rintro _ w1 ⟨rfl, g1⟩
  go_wp2
  go_ret
  exact ⟨rfl, gbTrans g0 g1⟩
set_option maxHeartbeats 400000 in
theorem rchild_twice {w : World} {p : Nat} {v : Value} {f : Fo} {a b c d : Int} {D D2 : Fo} {A C A2 C2 : List Kn} {i e j n i2 e2 j2 n2 : Nat} (H : Hid (RA w p v (f.flat 0))) (P : Hid (Pos f (a, b) D A C i e j n)) (P2 : Hid (Pos f (c, d) D2 A2 C2 i2 e2 j2 n2)) (hm : Hid (f.len ≤ 60)) :
    Calls Try.prog 23 #[.pointer (some ⟨p, 0, none⟩), sv a b, sv c d] w fun e w' => e = .returned (.int .i64 4) ∧ w.grownBy w' none := by
  go_enter Try.func23, Try.ntmps23
  go_upto_region 1 with fail
  obtain ⟨W, hW, X, Y, g0⟩ := twoS w a b c d
  rw [hW]
  clear hW
  have x0 := X.at0
  have x1 := X.at1
  go_wp2_with fail
  refine (at_yes (H.out.kept g0) P.out hm.out).mono ?_
  rintro _ w1 ⟨rfl, g1⟩
  clear x0 x1
  have y0 := (Y.kept g1).at0
  have y1 := (Y.kept g1).at1
  have hi0 : ¬ (i : Int) < 0 := by omega
  go_wp2_with fail
  refine (at_yes (H.out.kept (gbTrans g0 g1)) P2.out hm.out).mono ?_
  rintro _ w2 ⟨rfl, g2⟩
  go_wp2
  go_ret
  exact ⟨rfl, gbTrans (gbTrans g0 g1) g2⟩

set_option maxRecDepth 10000 in
set_option maxHeartbeats 4000000 in
theorem rchild_new {w : World} {p g cap : Nat} {f : Fo} {a b c d : Int} {D : Fo} {A C : List Kn} {i e j n : Nat} (H : Hid (RA w p (.slice (some ⟨g, 0, none⟩) n cap) (f.flat 0))) (P : Hid (Pos f (a, b) D A C i e j n)) (hh : Hid (f.has (c, d) = false)) (hm : Hid (f.len ≤ 60)) (hn60 : n ≤ 60) (hj : j ≤ 60) (hin : i < n) :
    Calls Try.prog 23 #[.pointer (some ⟨p, 0, none⟩), sv a b, sv c d] w fun x w' => x = .returned (.int .i64 0) ∧ ∃ v', RA w' p v' ((f.flat 0).take e ++ (((c, d), j + 1) :: (f.flat 0).drop e)) ∧ Fr (fun x => x = p) w w' ∧ ∀ g, v'.ownBlock = some g → w.heap.size ≤ g ∧ g < w'.heap.size := by
  have hl : Hid ((f.flat 0).length = n) := hideIt (by rw [Fo.flat_len]; exact P.out.len)
  go_enter Try.func23, Try.ntmps23
  go_upto_region 1 with fail
  obtain ⟨W, hW, X, Y, g0⟩ := twoS w a b c d
  rw [hW]
  clear hW
  have x0 := X.at0
  have x1 := X.at1
  go_wp2_with fail
  refine (at_yes (H.out.kept g0) P.out hm.out).mono ?_
  rintro _ w1 ⟨rfl, g1⟩
  clear x0 x1
  have y0 := (Y.kept g1).at0
  have y1 := (Y.kept g1).at1
  have hi0 : ¬ (i : Int) < 0 := by omega
  go_wp2_with fail
  refine (at_no (H.out.kept (gbTrans g0 g1)) hh.out hm.out).mono ?_
  rintro _ w2 ⟨rfl, g2⟩
  clear y0 y1
  have G2 := gbTrans (gbTrans g0 g1) g2
  have Y2 := (Y.kept g1).kept g2
  have gd := gbDrew (gbRefl w2 none)
  have HEn : ∀ W', w2.grownBy W' none → Calls Try.prog 37 #[.pointer (some ⟨p, 0, none⟩), .int .i64 i] W' fun x w' => x = .returned (.int .i64 e) ∧ W'.grownBy w' none := fun W' g' => end_is (H.out.kept (gbTrans G2 g')) P.out hm.out
  have HPt : ∀ W', w2.grownBy W' none → Calls Try.prog 36 #[.pointer (some ⟨p, 0, none⟩), .int .i64 e, .agg #[.int .i64 c, .int .i64 d, .int .i64 ((j + 1 : Nat) : Int)]] W' fun x w' => x = .returned (.tuple #[]) ∧ ∃ v', RA w' p v' ((f.flat 0).take e ++ (((c, d), j + 1) :: (f.flat 0).drop e)) ∧ Fr (fun x => x = p) W' w' ∧ ∀ g, v'.ownBlock = some g → W'.heap.size ≤ g ∧ g < w'.heap.size := fun W' g' => rput_is (H.out.kept (gbTrans G2 g')) hl.out (by omega) P.out.hen c d (j + 1)
  obtain ⟨j1, hj1⟩ : ∃ j1, j + 1 = j1 := ⟨_, rfl⟩
  rw [hj1] at HPt
  have Hj1 := hideIt hj1
  have hj1' : (j : Int) + 1 = (j1 : Int) := by omega
  have hwj : IntKind.i64.wrap (j1 : Int) = (j1 : Int) := by rw [IntKind.wrap_i64]; omega
  have c2 := (H.out.kept G2).cell
  have y0 := Y2.at0
  have y1 := Y2.at1
  have e2 := ((H.out.kept G2).row.el hl.out i _ P.out.hi).2.2
  simp only at e2
  have hil : (i : Int) < (n : Int) := by omega
  have hcl : ∀ w', w2.drew.grownBy w' none → (w'.cell? ⟨p, 0, none⟩ = some (.slice (some ⟨g, 0, none⟩) n cap) ∧ w'.cell? ⟨w.heap.size + 1, 0, none⟩ = some (.int .i64 c) ∧ w'.cell? ⟨w.heap.size + 1, 1, none⟩ = some (.int .i64 d) ∧ w'.cell? ⟨g, i * 3 + 2, none⟩ = some (.int .i64 j)) := fun w' g' => ⟨(gbTrans gd g').cell c2 (by simp), (gbTrans gd g').cell y0 (by simp), (gbTrans gd g').cell y1 (by simp), (gbTrans gd g').cell e2 (by simp)⟩
  clear hj1
  go_wp2
  go_region_with ((first | (go_at_call 37; refine (HEn _ gd).mono ?_; rintro _ w3 ⟨rfl, g3⟩; have G3 := gbTrans gd g3; obtain ⟨k0, k1, k2, k3⟩ := hcl w3 g3) | (go_at_call 36; refine (HPt _ G3).mono ?_; rintro _ w4 ⟨rfl, v', T, F, N⟩)))
  all_goals (
    rw [← Hj1.out] at T
    have HT := hideIt T
    have HF : Hid (Fr (fun x => x = p) w w4) := hideIt ((Fr.grown (gbTrans G2 G3)).trans F)
    have HN : Hid (∀ g, v'.ownBlock = some g → w.heap.size ≤ g ∧ g < w4.heap.size) := hideIt (fun g hg => ⟨Nat.le_trans (gbTrans G2 G3).size (N g hg).1, (N g hg).2⟩)
    clear T F N
    go_wp2
    go_ret
    exact ⟨rfl, v', HT.out, HF.out, HN.out⟩)

end Go.Proofs.Ytboojbnnjbmnoaa
