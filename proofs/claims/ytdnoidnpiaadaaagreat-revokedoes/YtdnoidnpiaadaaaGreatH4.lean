/-
  THE WALK of taking a slot's capability away.
-/
import Derived.Test.YtdnoidnpiaadaaaGreatH1
import Derived.Test.YtdnoidnpiaadaaaGreatG21
import Derived.Defers
import Derived.Recover
namespace Go.Proofs.YtdnoidnpiaadaaaGreat
set_option maxRecDepth 10000
open Go.RowKit
set_option linter.unusedVariables false

/-- What holds of what there is on the way, plainly. -/
structure Pw (n : Nat) (X Y : M.X) (a c : Int) (L : List (Int × Int)) (y : Nat) : Prop where
  ok : M.Ok Y
  gc : (M.gc Y.S (a, c)).k ≠ 0
  eq : M.away y Y (a, c) L = M.away n X (a, c) L
  fr : M.free Y.f L ≤ y
  yn : y ≤ n
  len : Y.f.len ≤ 1000
  tl : Y.T.length + Y.l ≤ 1000
theorem Pw.pos {n : Nat} {X Y : M.X} {a c : Int} {L : List (Int × Int)} {y : Nat} (h : Pw n X Y a c L y) (haL : (a, c) ∉ L) : 1 ≤ y := Nat.le_trans (M.free_pos h.ok.t.nd (h.ok.mem.2 h.gc) haL) h.fr
theorem Pw.inner {n : Nat} {X Y : M.X} {a c : Int} {L : List (Int × Int)} {y : Nat} (h : Pw n X Y a c L (y + 1)) (haL : (a, c) ∉ L) {b d : Int} (hb : M.ahd Y.S (a, c) (L ++ [(a, c)]) = some (b, d)) :
    (M.gc Y.S (b, d)).k ≠ 0 ∧ (b, d) ∉ L ++ [(a, c)] ∧ M.free Y.f (L ++ [(a, c)]) ≤ y := by
  obtain ⟨_, _, b1, b2, _⟩ := M.ahd_some h.ok.s hb
  have hf := M.free_less h.ok.t.nd (h.ok.mem.2 h.gc) haL
  have := h.fr
  exact ⟨b1, b2, by omega⟩
theorem Pw.stop {n : Nat} {X Y Z : M.X} {a c : Int} {L : List (Int × Int)} {y : Nat} (h : Pw n X Y a c L (y + 1)) {b d : Int} (hb : M.ahd Y.S (a, c) (L ++ [(a, c)]) = some (b, d)) (hz : M.away y Y (b, d) (L ++ [(a, c)]) = (true, Z)) : M.away n X (a, c) L = (true, Z) := by
  rw [← h.eq, M.away_some hb, hz]
theorem Pw.next {n : Nat} {X Y Z : M.X} {a c : Int} {L : List (Int × Int)} {y : Nat} (h : Pw n X Y a c L (y + 1)) (haL : (a, c) ∉ L) {b d : Int} (hb : M.ahd Y.S (a, c) (L ++ [(a, c)]) = some (b, d)) (hz : M.away y Y (b, d) (L ++ [(a, c)]) = (false, Z)) : Pw n X Z a c L y := by
  obtain ⟨b1, b2, b3⟩ := h.inner haL hb
  have g := M.away_ok y Y (b, d) (L ++ [(a, c)]) h.ok b1 b2 b3
  have ht := M.away_T y Y (b, d) (L ++ [(a, c)])
  rw [hz] at g ht
  obtain ⟨k1, k2, k3⟩ := g.next h.ok b1 b2
  have h1 := h.fr
  have h2 := h.yn
  have h3 := h.len
  have h4 := h.tl
  have h5 : Z.f.len + Y.l = Y.f.len + Z.l := g.len
  have h6 : Z.l ≤ Y.l := g.le
  have h7 : Z.T.length + Z.l ≤ Y.T.length + Y.l := ht
  exact ⟨k1, by rw [k2]; exact h.gc, by rw [← h.eq, M.away_some hb, hz], by omega, by omega, by omega, by omega⟩

set_option maxHeartbeats 4000000 in
theorem Rv.away : ∀ (n : Nat) {w0 w : World} {O : Nat → Prop} {p s t m x : Nat} {X : M.X} (R : Rv w0 w O p s t m x X) (ok : M.Ok X) (a c : Int) (bv : Value) (L : List (Int × Int)) (hb : Lst w w0.heap.size bv L) (nb : ∀ k, bv.ownBlock = some k → ¬ O k) (hf : (M.gc X.S (a, c)).k ≠ 0) (haL : (a, c) ∉ L) (hn : M.free X.f L ≤ n) (hlen : X.f.len ≤ 1000) (hT : X.T.length + X.l ≤ 1000) (hL : L.length + n ≤ 1000) (rq : Bool) (rx : M.X) (hr : M.away n X (a, c) L = (rq, rx)),
    Calls Tryz.prog 67 #[.pointer (some ⟨x, 0, none⟩), sv a c, bv] w fun e w' => e = endOf rq ∧ Rv w0 w' (wide O w w') p s t m x rx ∧ Lst w' w0.heap.size bv L ∧ Fr (fun i => O i ∨ bv.ownBlock = some i) w w' := by
  intro n
  induction n using Nat.strongRecOn with
  | _ n IH =>
  intro w0 w O p s t m x X R ok a c bv L hb nb hf haL hn hlen hT hL rq rx hr
  have HR := hideIt R
  have HB := hideIt hb
  have HNB := hideIt nb
  have HIH := hideIt IH
  have Hr := hideIt hr
  have haL' := hideIt haL
  have hi := M.th_i64 ok.s (M.gc_th hf)
  have HP : Hid (Pw n X X a c L n) := hideIt ⟨ok, hf, rfl, hn, Nat.le_refl _, hlen, hT⟩
  have hn1 : L.length + 1 ≤ 1000 := by have := HP.out.pos haL; omega
  have ha := hi.1
  clear R hb nb IH hr haL hn hT hi ok hf hlen
  go_enter Tryz.func67, Tryz.ntmps67
  go_upto_region 1 with fail
  obtain ⟨W, hW, X0, g0⟩ := sboxNew w a c
  have HWs : Hid (w.heap.size < W.heap.size) := hideIt X0.lt
  rw [hW]
  clear hW
  have HX0 := hideIt X0
  obtain ⟨x0, x1, _⟩ := X0
  have gA := gbAlloc W (.cells #[.int .i64 a, .int .i64 c] 31) none
  have HL0 := hideIt (HB.out.kept (gbTrans g0 gA))
  have HR1 := hideIt (rowOne W a c)
  have hdl : Hid (L.length + 1 ≤ 100000) := hideIt (by omega)
  have hB : Hid (w0.heap.size ≤ (W.alloc (.cells #[.int .i64 a, .int .i64 c] 31)).heap.size) := hideIt (Nat.le_trans HR.out.size (gbTrans g0 gA).size)
  go_upto_region 2 with (at_builtin; refine wpList_append_slot1 rfl (.tmp 8) (.tmp 10) rfl w0.heap.size bv L rfl HL0.out ⟨W.heap.size, 0, none⟩ 1 (a, c) rfl HR1.out hdl.out hB.out ?_; intro v1 w1 l1 o1)
  have HAw : Hid (Aw w0 w1 w1 O O p s t m x X v1 (L ++ [(a, c)]) w.heap.size a c) := hideIt (Aw.start HR.out HB.out HNB.out (gbTrans g0 gA) (HX0.out.kept gA) o1 l1 (Nat.lt_of_lt_of_le HWs.out gA.size))
  have HO := hideIt o1
  have HG := hideIt (gbTrans g0 gA)
  have hv1 : Hid (v1 ≠ .slice none 0 0) := hideIt (fun e => by
    rcases o1.or with ⟨g', n', cap', _, e2⟩ | ⟨e2, _⟩
    · rw [e] at e2; cases e2
    · rw [e] at e2; cases e2)
  clear l1 o1 x0 x1 HX0 HL0 HR1 hdl hB gA g0
  obtain ⟨res, hres⟩ : ∃ res, M.ahd X.S (a, c) (L ++ [(a, c)]) = res := ⟨_, rfl⟩
  have Hres := hideIt hres
  clear hres
  have s0 := HAw.out.sb.sb.at0
  have s1 := HAw.out.sb.sb.at1
  go_wp2_with fail
  refine (HAw.out.rv.ahead a c ha HAw.out.ls hv1.out (by simp; omega) res Hres.out).mono ?_
  rintro _ w2 ⟨rfl, g2⟩
  go_upto_region 3 with fail
  obtain ⟨W3, hW3, X3, g3⟩ := sboxNew w2 (res.getD (0, 0)).1 (res.getD (0, 0)).2
  rw [hW3]
  have HBw : Hid (Bw W3 O v1 w2.heap.size (res.getD (0, 0)).1 (res.getD (0, 0)).2) := hideIt ⟨⟨X3, (HAw.out.kept g2).out (Nat.le_refl _)⟩, (HAw.out.kept g2).far (Nat.le_refl _)⟩
  have HA3 := hideIt (HAw.out.kept (gbTrans g2 g3))
  clear hW3 X3 s0 s1 HAw
  go_loopg [6, 7] n (fun y s6 s7 wr => ∃ (Z : Nat) (b d : Int) (q : Bool) (Oc : Nat → Prop) (Y : M.X), s6 = .pointer (some ⟨Z, 0, none⟩) ∧ s7 = .bool q ∧ Hid (Aw w0 w1 wr O Oc p s t m x Y v1 (L ++ [(a, c)]) w.heap.size a c) ∧ Hid (Bw wr Oc v1 Z b d) ∧ Hid (M.ahd Y.S (a, c) (L ++ [(a, c)]) = if q then some (b, d) else none) ∧ Hid (Pw n X Y a c L y) ∧ Hid (w1.heap.size ≤ Z))
  case atStart => exact ⟨_, _, _, _, O, X, rfl, rfl, HA3, HBw, hideIt (by rw [Hres.out]; cases res <;> rfl), HP, hideIt g2.size⟩
  case round =>
    obtain ⟨Z, b, d, q, Oc, Y, rfl, rfl, HA, HZ, HQ, HY, HZ1⟩ := hrel
    have hpos := HY.out.pos haL'.out
    obtain ⟨y, hy⟩ : ∃ y, gk = y + 1 := ⟨gk - 1, by omega⟩
    have s0 := HA.out.sb.sb.at0
    have s1 := HA.out.sb.sb.at1
    cases q with
    | false =>
      have hz0 : M.ahd Y.S (a, c) (L ++ [(a, c)]) = none := HQ.out
      have HE : Hid (M.stp Y (a, c) = (rq, rx)) := hideIt (by rw [← M.away_none (n := y) hz0, ← hy, HY.out.eq, Hr.out])
      clear hz0
      go_wp2_with fail
      refine (HA.out.rv.step HY.out.ok a c HY.out.gc HY.out.len HY.out.tl).mono ?_
      rintro e w4 ⟨he, R4, F4⟩
      rw [HE.out] at he R4
      simp only at he R4
      have F4' : Fr (fun i => Oc i ∨ v1.ownBlock = some i) wr w4 := F4.mono (fun i _ e => .inl e)
      have l4 : Lst w4 w0.heap.size v1 (L ++ [(a, c)]) := HA.out.ls.block (fun k hk => F4.block k (HA.out.ls.lt k hk).2 (HA.out.no k hk))
      have HFIN := hideIt (Aw.fin HR.out HB.out HNB.out HG.out HO.out (HA.out.call R4 l4 F4'))
      clear R4 F4 F4' l4
      cases rq with
      | true =>
        obtain rfl : e = .panicked NS := he
        dsimp only
        go_wp2
        exact ⟨rfl, rfl, HFIN.out⟩
      | false =>
        obtain rfl : e = .returned (.tuple #[]) := he
        go_wp2
        exact bodyPost_end (results_none rfl _ _ _) rfl ⟨rfl, HFIN.out⟩
    | true =>
      have hz0 : M.ahd Y.S (a, c) (L ++ [(a, c)]) = some (b, d) := HQ.out
      have HZ0 := hideIt hz0
      clear hz0
      have hy' := HY.out
      rw [hy] at hy'
      have HY' := hideIt hy'
      obtain ⟨i1, i2, i3⟩ := hy'.inner haL'.out HZ0.out
      have hyn := hy'.yn
      clear hy'
      obtain ⟨⟨rq2, Y2⟩, hr2⟩ : ∃ r, M.away y Y (b, d) (L ++ [(a, c)]) = r := ⟨_, rfl⟩
      have z0 := HZ.out.sb.sb.at0
      have z1 := HZ.out.sb.sb.at1
      go_wp2_with fail
      refine (HIH.out y (by omega) HA.out.rv HY.out.ok b d v1 (L ++ [(a, c)]) HA.out.ls HA.out.no i1 i2 i3 HY.out.len HY.out.tl (by simp; omega) rq2 Y2 hr2).mono ?_
      rintro e w4 ⟨he, R4, l4, F4⟩
      have HA4 := hideIt (HA.out.call R4 l4 F4)
      have HZ4 := hideIt (HZ.out.call F4)
      have F4s := F4.size
      clear R4 F4 l4
      cases rq2 with
      | true =>
        have HE := HY'.out.stop HZ0.out hr2
        rw [Hr.out] at HE
        injection HE with e1 e2
        subst e1 e2
        have HFIN := hideIt (Aw.fin HR.out HB.out HNB.out HG.out HO.out HA4.out)
        obtain rfl : e = .panicked NS := he
        dsimp only
        go_wp2
        exact ⟨rfl, rfl, HFIN.out⟩
      | false =>
        obtain rfl : e = .returned (.tuple #[]) := he
        have HY2 := hideIt (HY'.out.next haL'.out HZ0.out hr2)
        clear hr2 z0 z1 s0 s1
        have HA4w : Hid (w.heap.size ≤ w4.heap.size) := hideIt (Nat.le_of_lt HA4.out.sb.sb.lt)
        have z0 := HZ4.out.sb.sb.at0
        have z1 := HZ4.out.sb.sb.at1
        go_upto_region 4 with fail
        obtain ⟨W5, hW5, X5, g5⟩ := sboxNew w4 b d
        rw [hW5]
        have HA5 := hideIt (HA4.out.kept g5)
        have HB5 : Hid (Bw W5 (wide Oc wr w4) v1 w4.heap.size b d) := hideIt ⟨⟨X5, HA4.out.out (Nat.le_refl _)⟩, HA4.out.far (Nat.le_refl _)⟩
        have hf5 : ∀ j, W5.frozen? ⟨w4.heap.size, j, none⟩ = false := fun j => by rw [← hW5]; simp
        clear X5 z0 z1 hW5
        have s0 := HA5.out.sb.sb.at0
        have s1 := HA5.out.sb.sb.at1
        obtain ⟨res2, hres2⟩ : ∃ res, M.ahd Y2.S (a, c) (L ++ [(a, c)]) = res := ⟨_, rfl⟩
        have Hres2 := hideIt hres2
        clear hres2
        go_wp2_with fail
        refine (HA5.out.rv.ahead a c ha HA5.out.ls hv1.out (by simp; omega) res2 Hres2.out).mono ?_
        rintro _ w6 ⟨rfl, g6⟩
        have u0 := (HB5.out.kept g6).sb.sb.at0
        have u1 := (HB5.out.kept g6).sb.sb.at1
        have f0 : w6.frozen? ⟨w4.heap.size, 0, none⟩ = false := (gfroz g6 _ _ HB5.out.sb.sb.lt).trans (hf5 0)
        have f1 : w6.frozen? ⟨w4.heap.size, 1, none⟩ = false := (gfroz g6 _ _ HB5.out.sb.sb.lt).trans (hf5 1)
        go_wp2
        obtain ⟨W7, hW7, X7, g7⟩ := (HB5.out.kept g6).sb.sb.set2 (res2.getD (0, 0)).1 (res2.getD (0, 0)).2
        rw [hW7]
        have hA7 : Hid (Aw w0 w1 W7 O (wide Oc wr w4) p s t m x Y2 v1 (L ++ [(a, c)]) w.heap.size a c) := hideIt ((HA5.out.kept g6).keep g7 HB5.out.sb.no HB5.out.nz (Nat.ne_of_lt HA4.out.sb.sb.lt) HA4.out.fr.size (Nat.le_trans HR.out.size HA4w.out))
        go_roundg y
        case rel => exact ⟨_, _, _, _, _, Y2, rfl, rfl, hA7, hideIt ⟨⟨X7, HB5.out.sb.no⟩, HB5.out.nz⟩, hideIt (by rw [Hres2.out]; cases res2 <;> rfl), HY2, hideIt HA4.out.fr.size⟩
        case measure => omega
end Go.Proofs.YtdnoidnpiaadaaaGreat

/-
  THE CONTRACT of taking away all that comes of a slot.
-/
namespace Go.Proofs.YtdnoidnpiaadaaaGreat
set_option maxRecDepth 10000
open Go.RowKit
set_option linter.unusedVariables false

namespace M
theorem rvk_none {n : Nat} {x : X} {a : Int × Int} (h : (x.f.kin a).getLast? = none) : rvk (n + 1) x a = (false, x) := by
  show (match (x.f.kin a).getLast? with
    | none => (false, x)
    | some b => match away x.f.len x b [] with
      | (true, y) => (true, y)
      | (false, y) => rvk n y a) = _
  rw [h]
theorem rvk_some {n : Nat} {x : X} {a b : Int × Int} (h : (x.f.kin a).getLast? = some b) : rvk (n + 1) x a = match away x.f.len x b [] with
      | (true, y) => (true, y)
      | (false, y) => rvk n y a := by
  show (match (x.f.kin a).getLast? with
    | none => (false, x)
    | some b => match away x.f.len x b [] with
      | (true, y) => (true, y)
      | (false, y) => rvk n y a) = _
  rw [h]
theorem kin_pre {f : T9.Fo} {a b : Int × Int} (h : b ∈ f.kin a) : b ∈ f.pre := by
  unfold T9.Fo.kin at h
  cases hs : f.sub a with
  | none => rw [hs] at h; cases h
  | some d =>
    rw [hs] at h
    have hk : ∀ (f d : T9.Fo), f.sub a = some d → ∀ b, b ∈ d.pre → b ∈ f.pre := by
      intro f
      induction f using T9.Fo.ind with
      | nil => intro d hd; cases hd
      | node bb oo a' d' r ihd ihr =>
        intro d hd b hb
        simp only [T9.Fo.sub] at hd
        simp only [T9.Fo.pre, List.mem_cons, List.mem_append]
        split at hd
        · cases hd; exact .inr (.inl hb)
        · cases hd' : d'.sub a with
          | some z => rw [hd'] at hd; simp at hd; subst hd; exact .inr (.inl (ihd _ hd' b hb))
          | none => rw [hd'] at hd; simp at hd; exact .inr (.inr (ihr _ hd b hb))
    exact hk f d hs b h
end M
/-- What holds on the way, plainly. -/
structure Kw (n : Nat) (X Y : M.X) (a : Int × Int) (y : Nat) : Prop where
  ok : M.Ok Y
  eq : M.rvk y Y a = M.rvk n X a
  fr : Y.f.len < y
  len : Y.f.len ≤ 1000
  tl : Y.T.length + Y.l ≤ 1000
theorem Kw.full {n : Nat} {X Y : M.X} {a b : Int × Int} {y : Nat} (h : Kw n X Y a y) (hb : (Y.f.kin a).getLast? = some b) : (M.gc Y.S b).k ≠ 0 := h.ok.mem.1 (M.kin_pre (List.mem_of_getLast? hb))
theorem Kw.next {n : Nat} {X Y Z : M.X} {a b : Int × Int} {y : Nat} (h : Kw n X Y a (y + 1)) (hb : (Y.f.kin a).getLast? = some b) (hz : M.away Y.f.len Y b [] = (false, Z)) : Kw n X Z a y := by
  have hf := h.full hb
  have g := M.away_ok Y.f.len Y b [] h.ok hf (by simp) (by rw [M.free_nil]; exact Nat.le_refl _)
  have ht := M.away_T Y.f.len Y b []
  rw [hz] at g ht
  have h1 := h.fr
  have h2 := h.len
  have h3 := h.tl
  have h4 : Z.T.length + Z.l ≤ Y.T.length + Y.l := ht
  have h5 : M.free Z.f [] + 1 ≤ M.free Y.f [] := M.free_gone h.ok.t.nd g.ok.t.nd (g.sub h.ok) (h.ok.mem.2 hf) (by simp) (fun k => by have := g.ok.mem.1 k; rw [g.done rfl] at this; exact this rfl)
  rw [M.free_nil, M.free_nil] at h5
  exact ⟨g.ok, by rw [← h.eq, M.rvk_some hb, hz], by omega, by omega, by omega⟩

abbrev Rd5 (w : World) (x p t y : Nat) (n i : Int) : Prop := Ptr w x 0 p ∧ Rd3 w p 1 t y n i
theorem Rd5.kept {w w' : World} {x p t y : Nat} {n i : Int} (h : Rd5 w x p t y n i) (g : w.grownBy w' none) : Rd5 w' x p t y n i := ⟨g.cell h.1 (by simp), h.2.kept g⟩
theorem Rv.kinc {w0 w : World} {O : Nat → Prop} {p s t m x : Nat} {X : M.X} (R : Rv w0 w O p s t m x X) (n i : Int) (hn : I64 n) (hi : I64 i) (hm : X.f.len ≤ 1000) :
    Calls Tryz.prog 14 #[.pointer (some ⟨t, 0, none⟩), sv n i] w fun e w' => ∃ v', e = .returned v' ∧ Lst w' w.heap.size v' (X.f.kin (n, i)) ∧ w.grownBy w' none := by
  obtain ⟨OC, v, h⟩ := R
  exact h.cs.kin n i hn hi hm
theorem Rv.p0 {w0 w : World} {O : Nat → Prop} {p s t m x : Nat} {X : M.X} (R : Rv w0 w O p s t m x X) : w.cell? ⟨x, 0, none⟩ = some (.pointer (some ⟨p, 0, none⟩)) := by obtain ⟨OC, v, h⟩ := R; exact h.c0
theorem Rv.p1 {w0 w : World} {O : Nat → Prop} {p s t m x : Nat} {X : M.X} (R : Rv w0 w O p s t m x X) : w.cell? ⟨p, 1, none⟩ = some (.pointer (some ⟨t, 0, none⟩)) := by obtain ⟨OC, v, h⟩ := R; exact h.cs.c1
theorem Aw.tup {w0 w wc : World} {O Oc : Nat → Prop} {p s t m x : Nat} {Y : M.X} {v : Value} {L : List (Int × Int)} {A : Nat} {a c : Int} (h : Aw w0 w wc O Oc p s t m x Y v L A a c) : Rd5 wc x p t A a c := ⟨h.rv.p0, h.rv.p1, h.sb.sb.at0, h.sb.sb.at1⟩
theorem Aw.last {w0 w wc : World} {O Oc : Nat → Prop} {p s t m x : Nat} {X Y : M.X} {A : Nat} {a c : Int} (h : Aw w0 w wc O Oc p s t m x Y (.slice none 0 0) [] A a c) (R : Rv w0 w O p s t m x X) : Rv w0 wc (wide O w wc) p s t m x Y ∧ Fr O w wc := by
  have h0 := R.size
  have hlo := R.lo
  have hs := h.fr.size
  refine ⟨h.rv.mono (fun i hi => ?_) (fun i hi => ?_), h.fr.mono (fun i _ e => ?_)⟩
  · rcases h.sub i hi with e | e
    · exact .inl e
    · exact .inr ⟨e, (h.rv.lo i hi).2⟩
  · rcases hi with e | e
    · have := hlo i e; omega
    · omega
  · rcases e with e | e
    · exact e
    · cases e
theorem kin_len11 (f : T9.Fo) (x : Int × Int) : (f.kin x).length ≤ f.len := M.kin_len f x
/-- A list's last one. -/
theorem Lst.last {w : World} {B : Nat} {v : Value} {L : List (Int × Int)} (h : Lst w B v L) : (L.getLast? = none ∧ L.length = 0 ∧ ∃ xo cap, v = .slice xo 0 cap) ∨ ∃ g n cap b d, L.getLast? = some (b, d) ∧ L.length = n + 1 ∧ v = .slice (some ⟨g, 0, none⟩) (n + 1) cap ∧ w.cell? ⟨g, n * 2, none⟩ = some (.int .i64 b) ∧ w.cell? ⟨g, n * 2 + 1, none⟩ = some (.int .i64 d) := by
  rcases h.form with ⟨rfl, rfl⟩ | ⟨g, cap, rfl, _, _, _, _, hr⟩
  · exact .inl ⟨rfl, rfl, none, 0, rfl⟩
  · cases hl : L.length with
    | zero =>
      have := List.eq_nil_of_length_eq_zero hl
      subst this
      exact .inl ⟨rfl, rfl, _, _, rfl⟩
    | succ n =>
      have hn : n < L.length := by omega
      obtain ⟨⟨b, d⟩, hbd⟩ : ∃ q, L[n]? = some q := ⟨_, List.getElem?_eq_getElem hn⟩
      have E := hr n _ hbd
      rw [Addr.add_lit, Nat.zero_add] at E
      refine .inr ⟨g, n, cap, b, d, ?_, rfl, rfl, E.at0, E.at1⟩
      rw [List.getLast?_eq_getElem?, hl]
      exact hbd

set_option maxHeartbeats 4000000 in
theorem Rv.kin {w0 w : World} {O : Nat → Prop} {p s t m x : Nat} {X : M.X} (R : Rv w0 w O p s t m x X) (ok : M.Ok X) (a c : Int) (ha : I64 a) (hc : I64 c) (hlen : X.f.len ≤ 1000) (hT : X.T.length + X.l ≤ 1000) (n : Nat) (hn : X.f.len < n) (rq : Bool) (rx : M.X) (hr : M.rvk n X (a, c) = (rq, rx)) :
    Calls Tryz.prog 72 #[.pointer (some ⟨x, 0, none⟩), sv a c] w fun e w' => e = endOf rq ∧ Rv w0 w' (wide O w w') p s t m x rx ∧ Fr O w w' := by
  have HR := hideIt R
  have Hr := hideIt hr
  have HP : Hid (Kw n X X (a, c) n) := hideIt ⟨ok, rfl, hn, hlen, hT⟩
  clear R hr ok hT hn
  go_enter Tryz.func72, Tryz.ntmps72
  go_upto_region 1 with fail
  obtain ⟨W, hW, X0, g0⟩ := sboxNew w a c
  rw [hW]
  clear hW
  have HA : Hid (Aw w0 w W O O p s t m x X (.slice none 0 0) [] w.heap.size a c) := hideIt ⟨HR.out.kept g0, Fr.grown g0, fun i hi => .inl hi, Lst.nil _ _, (fun k hk => by cases hk), ⟨X0, fun e => by have := (HR.out.lo _ e).2; omega⟩, (by intro e; cases e)⟩
  clear X0 g0
  have T0 : Rd5 W.drew x p t w.heap.size a c := HA.out.tup.kept (gbDrewN W 1 none)
  go_region_held3 (fun w' => Rd5 w' x p t w.heap.size a c)
    (first | with_reducible exact T0 | with_reducible exact T1 | fail)
    ((first | (go_at_call 14; refine ((HA.out.kept (gbDrewN W 1 none)).rv.kinc a c ha hc hlen).mono ?_; rintro _ w2 ⟨v2, rfl, l2, g2⟩; have HA2 := hideIt ((HA.out.kept (gbDrewN W 1 none)).kept g2); have T1 := HA2.out.tup; have HL2 := hideIt l2) | fail))
  clear T0 T1 l2 HA
  go_wp2
  go_loopg [4] n (fun y s4 wr => ∃ (B : Nat) (Oc : Nat → Prop) (Y : M.X), Hid (Aw w0 w wr O Oc p s t m x Y (.slice none 0 0) [] w.heap.size a c) ∧ Hid (Kw n X Y (a, c) y) ∧ Hid (Lst wr B s4 (Y.f.kin (a, c))))
  case atStart => exact ⟨_, O, X, HA2, HP, HL2⟩
  case round =>
    obtain ⟨B, Oc, Y, HA, HK, HL⟩ := hrel
    have hk0 := HK.out.fr
    obtain ⟨y, hy⟩ : ∃ y, gk = y + 1 := ⟨gk - 1, by omega⟩
    have hkl := kin_len11 Y.f (a, c)
    have hy1 := HK.out.len
    rcases HL.out.last with ⟨h1, h2, xo, cap, rfl⟩ | ⟨g, q, cap, b, d, h1, h2, rfl, z0, z1⟩
    · have HE : M.rvk n X (a, c) = (false, Y) := by rw [← HK.out.eq, hy, M.rvk_none h1]
      rw [Hr.out] at HE
      injection HE with e1 e2
      subst e1 e2
      have HFIN := hideIt (HA.out.last HR.out)
      go_wp2
      exact bodyPost_end (results_none rfl _ _ _) rfl ⟨rfl, HFIN.out⟩
    · have H1 := hideIt h1
      have hK' := HK.out
      rw [hy] at hK'
      have HK' := hideIt hK'
      have hfull := hK'.full h1
      obtain ⟨⟨rq2, Y2⟩, hr2⟩ : ∃ r, M.away Y.f.len Y (b, d) [] = r := ⟨_, rfl⟩
      have hq : 0 < ((q + 1 : Nat) : Int) := by omega
      have hq1 : ((q + 1 : Nat) : Int) - 1 = (q : Int) := by omega
      have hq2 : (q : Int) ≤ 1000 := by omega
      have hq3 : q < q + 1 := Nat.lt_succ_self q
      clear h1 hK'
      obtain ⟨Q, hQ⟩ : ∃ Q, q + 1 = Q := ⟨_, rfl⟩
      rw [hQ] at hq hq1 hq3 ⊢
      have hQl : (Q : Int) ≤ 1001 := by omega
      clear hQ h2 hkl
      go_wp2_with fail
      refine (HA.out.rv.away Y.f.len HK.out.ok b d (.slice none 0 0) [] (Lst.nil _ _) (fun k hk => by cases hk) hfull (by simp) (by rw [M.free_nil]; exact Nat.le_refl _) HK.out.len HK.out.tl (by simp; exact HK.out.len) rq2 Y2 hr2).mono ?_
      rintro e w4 ⟨he, R4, l4, F4⟩
      have HA4 := hideIt (HA.out.call R4 (Lst.nil _ _) F4)
      clear R4 F4 l4
      cases rq2 with
      | true =>
        have HE : M.rvk n X (a, c) = (true, Y2) := by rw [← HK.out.eq, hy, M.rvk_some H1.out, hr2]
        rw [Hr.out] at HE
        injection HE with e1 e2
        subst e1 e2
        have HFIN := hideIt (HA4.out.last HR.out)
        obtain rfl : e = .panicked NS := he
        dsimp only
        go_wp2
        exact ⟨rfl, rfl, HFIN.out⟩
      | false =>
        obtain rfl : e = .returned (.tuple #[]) := he
        have HK2 := hideIt (HK'.out.next H1.out hr2)
        have hlen2 := HK2.out.len
        clear hr2 z0 z1
        go_upto_region 3 with fail
        have T0 : Rd5 w4.drew x p t w.heap.size a c := HA4.out.tup.kept (gbDrewN w4 1 none)
        go_region_held3 (fun w' => Rd5 w' x p t w.heap.size a c)
          (first | with_reducible exact T0 | with_reducible exact T1 | fail)
          ((first | (go_at_call 14; refine ((HA4.out.kept (gbDrewN w4 1 none)).rv.kinc a c ha hc hlen2).mono ?_; rintro _ w6 ⟨v6, rfl, l6, g6⟩; have HA6 := hideIt ((HA4.out.kept (gbDrewN w4 1 none)).kept g6); have T1 := HA6.out.tup; have HL6 := hideIt l6) | fail))
        clear T0 T1 l6
        go_wp2
        go_roundg y
        case rel => exact ⟨_, _, Y2, HA6, HK2, HL6⟩
        case measure => omega
end Go.Proofs.YtdnoidnpiaadaaaGreat

/-
  THE CONTRACTS of Delete and Revoke: what is refused, and that no steps are left is caught.
-/
namespace Go.Proofs.YtdnoidnpiaadaaaGreat
set_option maxRecDepth 10000
open Go.RowKit
set_option linter.unusedVariables false

/-! ### What is caught -/
theorem tmps46 (P1 P2 P3 P4 X : Value) : (#[P1, P2, P3, P4] ++ ((Array.replicate 18 undef).setIfInBounds 3 X).setIfInBounds 0 X) = #[P1, P2, P3, P4, X, undef, undef, X, undef, undef, undef, undef, undef, undef, undef, undef, undef, undef, undef, undef, undef, undef] := by simp [Array.replicate, List.replicate]
set_option maxHeartbeats 1000000 in
theorem catch_idle (P1 P2 P3 P4 : Value) (w : World) :
    CallsD Tryz.prog 105 #[P1, P2, P3, P4] .returning w fun e u' w' => e = .returned (.tuple #[]) ∧ u' = .returning ∧ w' = w := by
  refine callsD_of_wpS Tryz.func105 rfl fun c₀ cs hu => ?_
  apply wpS_seq
  apply wpS_region
  simp [wpOpsS, go_sem, recoverD, hu, Tryz.ntmps105, Exit.thenS]
  rw [tmps46]
  refine wpS_of_wp ?_
  go_wp2
  cases c₀
  simp_all [bodyPostS, results, Tryz.results105]
set_option maxHeartbeats 1000000 in
theorem catch_more (C1 R1 R2 R3 M1 : Nat) (xo : Option Addr) (vn vc : Nat) (o1 o2 o3 : Value) (w : World) (h1 : w.cell? ⟨C1, 0, none⟩ = some (.pointer (some ⟨M1, 0, none⟩))) (h2 : w.cell? ⟨M1, 2, none⟩ = some (.slice xo vn vc)) (r1 : w.cell? ⟨R1, 0, none⟩ = some o1) (r2 : w.cell? ⟨R2, 0, none⟩ = some o2) (r3 : w.cell? ⟨R3, 0, none⟩ = some o3)
    (z1 : w.frozen? ⟨R1, 0, none⟩ = false) (z2 : w.frozen? ⟨R2, 0, none⟩ = false) (z3 : w.frozen? ⟨R3, 0, none⟩ = false) (n12 : R1 ≠ R2) (n13 : R1 ≠ R3) (n23 : R2 ≠ R3) :
    CallsD Tryz.prog 105 #[.pointer (some ⟨C1, 0, none⟩), .pointer (some ⟨R1, 0, none⟩), .pointer (some ⟨R2, 0, none⟩), .pointer (some ⟨R3, 0, none⟩)] (.panicking NS) w fun e u' w' =>
      e = .returned (.tuple #[]) ∧ u' = .panicking [{ v := .iface 140 (.agg #[]), recovered := true }] ∧ ∃ W, w.grownBy W none ∧ w' = ((W.setCell ⟨R1, 0, none⟩ (.slice xo vn vc)).setCell ⟨R2, 0, none⟩ (.bool false)).setCell ⟨R3, 0, none⟩ (.int .i64 11) := by
  refine callsD_of_wpS Tryz.func105 rfl fun c₀ cs hu => ?_
  apply wpS_seq
  apply wpS_region
  simp [wpOpsS, go_sem, recoverD, hu, NS, Tryz.ntmps105, Exit.thenS]
  rw [tmps46]
  refine wpS_of_wp ?_
  have hta : ∀ w : World, (Instr.typeAssert (Value.iface 140 (.agg #[])) 20 140 true).run Tryz.prog w = .ok (.tuple #[.agg #[], .bool true]) w := fun w => by kernel_rfl
  have gA := gbAlloc w (.cells #[] 140) none
  have k1 := gA.cell h1 (by simp)
  have k2 := gA.cell h2 (by simp)
  have q1 := gA.cell r1 (by simp)
  have q2 := gA.cell r2 (by simp)
  have q3 := gA.cell r3 (by simp)
  have y1 := (gbFrozen gA (i := 0) (World.block_lt_of_cell? _ _ r1) (by simp)).trans z1
  have y2 := (gbFrozen gA (i := 0) (World.block_lt_of_cell? _ _ r2) (by simp)).trans z2
  have y3 := (gbFrozen gA (i := 0) (World.block_lt_of_cell? _ _ r3) (by simp)).trans z3
  clear h1 h2 r1 r2 r3 z1 z2 z3
  have n21 := Ne.symm n12
  have n31 := Ne.symm n13
  have n32 := Ne.symm n23
  go_wp2
  cases c₀
  simp_all [bodyPostS, results, Tryz.results105]
  exact ⟨_, gA, rfl⟩
/-! ### The face -/
/-- The cells of the results. -/
structure Res (w : World) (N : Nat) (v : Value) (b : Bool) (e : Int) : Prop where
  c1 : w.cell? ⟨N + 1, 0, none⟩ = some v
  c2 : w.cell? ⟨N + 2, 0, none⟩ = some (.bool b)
  c3 : w.cell? ⟨N + 3, 0, none⟩ = some (.int .i64 e)
  f1 : w.frozen? ⟨N + 1, 0, none⟩ = false
  f2 : w.frozen? ⟨N + 2, 0, none⟩ = false
  f3 : w.frozen? ⟨N + 3, 0, none⟩ = false
  lt : N + 3 < w.heap.size
theorem Res.kept {w w' : World} {N : Nat} {v : Value} {b : Bool} {e : Int} (h : Res w N v b e) (g : w.grownBy w' none) : Res w' N v b e := by
  have hl := h.lt
  exact ⟨g.cell h.c1 (by simp), g.cell h.c2 (by simp), g.cell h.c3 (by simp), (gfroz g _ _ (by omega)).trans h.f1, (gfroz g _ _ (by omega)).trans h.f2, (gfroz g _ _ hl).trans h.f3, Nat.lt_of_lt_of_le hl g.size⟩
theorem Res.fr {O : Nat → Prop} {w w' : World} {N : Nat} {v : Value} {b : Bool} {e : Int} (h : Res w N v b e) (F : Fr O w w') (h1 : ¬ O (N + 1)) (h2 : ¬ O (N + 2)) (h3 : ¬ O (N + 3)) : Res w' N v b e := by
  have hl := h.lt
  exact ⟨F.cell h.c1 h1, F.cell h.c2 h2, F.cell h.c3 h3, (gfrozF F _ _ h1 (by omega)).trans h.f1, (gfrozF F _ _ h2 (by omega)).trans h.f2, (gfrozF F _ _ h3 hl).trans h.f3, Nat.lt_of_lt_of_le hl F.size⟩
theorem faceNew (w : World) (a c : Int) : ∃ W, (((w.alloc (.cells #[.int .i64 a, .int .i64 c] 31)).alloc (.cells #[.slice none 0 0] 65)).alloc (.cells #[.bool false] 4)).alloc (.cells #[.int .i64 0] 53) = W ∧ SBox W w.heap.size a c ∧ Res W w.heap.size (.slice none 0 0) false 0 ∧ w.grownBy W none := by
  have g1 := gbAlloc w (.cells #[.int .i64 a, .int .i64 c] 31) none
  obtain ⟨w1, hw1⟩ : ∃ w1, w.alloc (.cells #[.int .i64 a, .int .i64 c] 31) = w1 := ⟨_, rfl⟩
  have s1 := SBox.made w a c
  rw [hw1] at s1 g1 ⊢
  have z1 : w1.heap.size = w.heap.size + 1 := by rw [← hw1]; exact Deep.nblk_alloc _ _
  obtain ⟨w2, hw2⟩ : ∃ w2, w1.alloc (.cells #[.slice none 0 0] 65) = w2 := ⟨_, rfl⟩
  have g2 := gbAlloc w1 (.cells #[.slice none 0 0] 65) none
  have c2 : (w1.alloc (.cells #[.slice none 0 0] 65)).cell? ⟨w1.heap.size, 0, none⟩ = some (.slice none 0 0) := by simp
  have f2 : (w1.alloc (.cells #[.slice none 0 0] 65)).frozen? ⟨w1.heap.size, 0, none⟩ = false := by simp
  have z2 : (w1.alloc (.cells #[.slice none 0 0] 65)).heap.size = w1.heap.size + 1 := Deep.nblk_alloc _ _
  rw [hw2] at g2 c2 f2 z2 ⊢
  obtain ⟨w3, hw3⟩ : ∃ w3, w2.alloc (.cells #[.bool false] 4) = w3 := ⟨_, rfl⟩
  have g3 := gbAlloc w2 (.cells #[.bool false] 4) none
  have c3 : (w2.alloc (.cells #[.bool false] 4)).cell? ⟨w2.heap.size, 0, none⟩ = some (.bool false) := by simp
  have f3 : (w2.alloc (.cells #[.bool false] 4)).frozen? ⟨w2.heap.size, 0, none⟩ = false := by simp
  have z3 : (w2.alloc (.cells #[.bool false] 4)).heap.size = w2.heap.size + 1 := Deep.nblk_alloc _ _
  rw [hw3] at g3 c3 f3 z3 ⊢
  have g4 := gbAlloc w3 (.cells #[.int .i64 0] 53) none
  have c4 : (w3.alloc (.cells #[.int .i64 0] 53)).cell? ⟨w3.heap.size, 0, none⟩ = some (.int .i64 0) := by simp
  have f4 : (w3.alloc (.cells #[.int .i64 0] 53)).frozen? ⟨w3.heap.size, 0, none⟩ = false := by simp
  have z4 : (w3.alloc (.cells #[.int .i64 0] 53)).heap.size = w3.heap.size + 1 := Deep.nblk_alloc _ _
  have e2 : w2.heap.size = w.heap.size + 2 := by omega
  have e3 : w3.heap.size = w.heap.size + 3 := by omega
  rw [z1] at c2 f2
  rw [e2] at c3 f3
  rw [e3] at c4 f4
  have g34 := gbTrans g3 g4
  have g234 := gbTrans g2 g34
  exact ⟨_, rfl, s1.kept g234, ⟨g34.cell c2 (by simp), g4.cell c3 (by simp), c4, (gfroz g34 _ _ (by omega)).trans f2, (gfroz g4 _ _ (by omega)).trans f3, f4, by omega⟩, gbTrans g1 g234⟩
abbrev gRef (w : World) (p : Nat) (a c l e : Int) : Prop := ∀ W, w.grownBy W none → Calls Tryz.prog 104 #[.pointer (some ⟨p, 0, none⟩), sv a c, .int .i64 l] W fun x w' => x = .returned (.int .i64 e) ∧ W.grownBy w' none
theorem Res.set {w : World} {N : Nat} {v : Value} {b : Bool} {e : Int} (h : Res w N v b e) (v' : Value) (b' : Bool) (e' : Int) :
    ∃ W, ((w.setCell ⟨N + 1, 0, none⟩ v').setCell ⟨N + 2, 0, none⟩ (.bool b')).setCell ⟨N + 3, 0, none⟩ (.int .i64 e') = W ∧ W.cell? ⟨N + 1, 0, none⟩ = some v' ∧ W.cell? ⟨N + 2, 0, none⟩ = some (.bool b') ∧ W.cell? ⟨N + 3, 0, none⟩ = some (.int .i64 e') ∧ Fr (fun i => i = N + 1 ∨ i = N + 2 ∨ i = N + 3) w W := by
  refine ⟨_, rfl, ?_, ?_, ?_, ?_⟩
  · exact (World.cell?_setCell_other _ _ _ _ (by simp)).trans ((World.cell?_setCell_other _ _ _ _ (by simp)).trans (World.cell?_setCell_same _ _ _ h.c1))
  · exact (World.cell?_setCell_other _ _ _ _ (by simp)).trans (World.cell?_setCell_same _ _ _ ((World.cell?_setCell_other _ _ _ _ (by simp)).trans h.c2))
  · exact World.cell?_setCell_same _ _ _ ((World.cell?_setCell_other _ _ _ _ (by simp)).trans ((World.cell?_setCell_other _ _ _ _ (by simp)).trans h.c3))
  · exact ((Fr.at (gbSetCell _ _ _ _) (.inl rfl)).trans (Fr.at (gbSetCell _ _ _ _) (.inr (.inl rfl)))).trans (Fr.at (gbSetCell _ _ _ _) (.inr (.inr rfl)))

set_option maxHeartbeats 1000000 in
theorem inSteps_no (w : World) (p : Nat) (a c l e : Int) (fv : Value) (HRf : gRef w p a c l e) (he : (e != 0) = true) :
    Calls Tryz.prog 65 #[.pointer (some ⟨p, 0, none⟩), sv a c, .int .i64 l, fv] w fun x w' => x = .returned (.tuple #[.slice none 0 0, .bool false, .int .i64 e]) ∧ w.grownBy w' none := by
  go_enter_defers Tryz.func65, Tryz.ntmps65
  go_upto_region 1 with fail
  obtain ⟨W, hW, ⟨x0, x1, _⟩, HR, g0⟩ := faceNew w a c
  rw [hW]
  clear hW
  have HRs := hideIt HR
  clear HR
  go_wp2_with fail
  refine (HRf W g0).mono ?_
  rintro _ w2 ⟨rfl, g2⟩
  have R2 := HRs.out.kept g2
  have HR2 := hideIt R2
  obtain ⟨c1, c2, c3, f1, f2, f3, _⟩ := R2
  go_wp2
  obtain ⟨W5, hW5, d1, d2, d3, F5⟩ := HR2.out.set (.slice none 0 0) false e
  rw [hW5]
  have hg : w.grownBy W5 none := ((Fr.grown (O := fun i => i = w.heap.size + 1 ∨ i = w.heap.size + 2 ∨ i = w.heap.size + 3) (gbTrans g0 g2)).trans F5).new (fun i hi k => by rcases k with k | k | k <;> omega)
  clear hW5
  exact ⟨_, by simp [results, Tryz.results65, go_sem, d1, d2, d3], rfl, hg⟩

/-- What a call that takes away begins with. -/
theorem workNew {w0 w : World} {O : Nat → Prop} {p s t m : Nat} {S : St} {f : T9.Fo} (h : Cs w0 w O p s t m S f) (l : Nat) :
    ∃ W, (w.alloc (.cells #[.pointer (some ⟨p, 0, none⟩), .int .i64 (l : Int), .slice none 0 0] 138)).alloc (.cells #[.pointer (some ⟨w.heap.size, 0, none⟩)] 110) = W ∧ Rv w0 W (fun i => O i ∨ i = w.heap.size) p s t m w.heap.size ⟨S, f, l, []⟩ ∧ W.cell? ⟨w.heap.size + 1, 0, none⟩ = some (.pointer (some ⟨w.heap.size, 0, none⟩)) ∧ w.grownBy W none ∧ w.heap.size + 1 < W.heap.size := by
  have g1 := gbAlloc w (.cells #[.pointer (some ⟨p, 0, none⟩), .int .i64 (l : Int), .slice none 0 0] 138) none
  obtain ⟨w1, hw1⟩ : ∃ w1, w.alloc (.cells #[.pointer (some ⟨p, 0, none⟩), .int .i64 (l : Int), .slice none 0 0] 138) = w1 := ⟨_, rfl⟩
  have z1 : w1.heap.size = w.heap.size + 1 := by rw [← hw1]; exact Deep.nblk_alloc _ _
  have b1 : w1.heap[w.heap.size]? = some (.cells #[.pointer (some ⟨p, 0, none⟩), .int .i64 (l : Int), .slice none 0 0] 138) := by rw [← hw1]; exact Deep.blk_alloc_new _ _
  rw [hw1] at g1 ⊢
  have g2 := gbAlloc w1 (.cells #[.pointer (some ⟨w.heap.size, 0, none⟩)] 110) none
  have c2 : (w1.alloc (.cells #[.pointer (some ⟨w.heap.size, 0, none⟩)] 110)).cell? ⟨w1.heap.size, 0, none⟩ = some (.pointer (some ⟨w.heap.size, 0, none⟩)) := by simp
  have z2 : (w1.alloc (.cells #[.pointer (some ⟨w.heap.size, 0, none⟩)] 110)).heap.size = w1.heap.size + 1 := Deep.nblk_alloc _ _
  rw [z1] at c2
  have g12 := gbTrans g1 g2
  have h0 := h.gr.size
  refine ⟨_, rfl, ⟨O, .slice none 0 0, h.kept g12, fun i hi => ⟨.inl hi, fun e => by have := (h.lo i hi).2; omega⟩, TL.nil _ _, (fun k hk => by cases hk), (g2.block _ (by omega) (by simp)).trans b1, .inr rfl, fun i hi => ?_, rfl⟩, c2, g12, by omega⟩
  rcases hi with e | e
  · have := h.lo i e; omega
  · omega

set_option maxHeartbeats 2000000 in
theorem inSteps_del {w0 w : World} {O : Nat → Prop} {p s t m : Nat} {S : St} {f : T9.Fo} (h : Cs w0 w O p s t m S f) (a c : Int) (l A : Nat) (HRf : gRef w p a c l 0) (rq : Bool) (rx : M.X) (HA : Hid (SBox w A a c)) (nA : Hid (¬ O A))
    (HK : Hid (∀ (W : World) (O' : Nat → Prop) (M' : Nat), Rv w0 W O' p s t m M' ⟨S, f, l, []⟩ → SBox W A a c → ¬ O' A → Calls Tryz.prog 66 #[.pointer (some ⟨M', 0, none⟩), .pointer (some ⟨A, 0, none⟩)] W fun e w' => e = endOf rq ∧ Rv w0 w' (wide O' W w') p s t m M' rx ∧ Fr O' W w')) :
    Calls Tryz.prog 65 #[.pointer (some ⟨p, 0, none⟩), sv a c, .int .i64 (l : Int), .func (.func 66) #[] #[.pointer (some ⟨A, 0, none⟩)]] w fun x w' => ∃ tv Oc, x = .returned (.tuple #[tv, .bool (!rq), .int .i64 (if rq then 11 else 0)]) ∧ Cs w0 w' Oc p s t m rx.S rx.f ∧ (∀ i, Oc i → O i ∨ w.heap.size ≤ i) ∧ Fr O w w' ∧ TL w' w0.heap.size tv rx.T ∧ (∀ k, tv.ownBlock = some k → ¬ Oc k ∧ (O k ∨ w.heap.size ≤ k)) := by
  have hmf : ∀ (fn : Fn) (first cap : Array Value) (w : World), (Instr.makeFunc fn first cap).run Tryz.prog w = .ok (.func fn first cap) w := fun _ _ _ _ => rfl
  have HH := hideIt h
  clear h
  go_enter_defers Tryz.func65, Tryz.ntmps65
  go_upto_region 1 with fail
  obtain ⟨W, hW, ⟨x0, x1, _⟩, HR, g0⟩ := faceNew w a c
  rw [hW]
  clear hW
  have HRs := hideIt HR
  clear HR
  go_wp2_with fail
  refine (HRf W g0).mono ?_
  rintro _ w2 ⟨rfl, g2⟩
  have HR2 := hideIt (HRs.out.kept g2)
  have HC2 := hideIt (HH.out.kept (gbTrans g0 g2))
  clear x0 x1 HRs
  go_upto_region 5 with fail
  obtain ⟨W4, hW4, HV, k4, g4, z4⟩ := workNew HC2.out l
  rw [hW4]
  clear hW4
  have HV4 := hideIt HV
  have HR4 := hideIt (HR2.out.kept g4)
  have HA4 := hideIt (HA.out.kept (gbTrans (gbTrans g0 g2) g4))
  have nA4 : Hid (¬ (O A ∨ A = w2.heap.size)) := hideIt (fun e => by
    rcases e with e | e
    · exact nA.out e
    · have := (HA.out.kept (gbTrans g0 g2)).lt; omega)
  have Hk4 := hideIt k4
  have Hz4 := hideIt z4
  clear HV z4
  go_wp2_with fail
  refine (HK.out W4 _ w2.heap.size HV4.out HA4.out nA4.out).mono ?_
  rintro e w5 ⟨he, R5, F5⟩
  have HR5 : Hid (Res w5 w.heap.size (.slice none 0 0) false 0) := hideIt (HR4.out.fr F5 (fun e => ?no1) (fun e => ?no2) (fun e => ?no3))
  case no1 | no2 | no3 =>
    have h1 := HR2.out.lt
    rcases e with e | e
    · have := (HH.out.lo _ e).2; omega
    · omega
  have Hk5 : Hid (w5.cell? ⟨w2.heap.size + 1, 0, none⟩ = some (.pointer (some ⟨w2.heap.size, 0, none⟩))) := hideIt (F5.cell Hk4.out (fun e => by
    rcases e with e | e
    · have := (HC2.out.lo _ e).2
      change w2.heap.size + 1 < w2.heap.size at this
      omega
    · change w2.heap.size + 1 = w2.heap.size at e
      omega))
  obtain ⟨OC5, tv, X5⟩ := R5
  obtain ⟨xo, vn, vc, rfl⟩ : ∃ xo vn vc, tv = .slice xo vn vc := by
    rcases X5.tl.form with ⟨rfl, _⟩ | ⟨g, cap, rfl, _⟩
    · exact ⟨_, _, _, rfl⟩
    · exact ⟨_, _, _, rfl⟩
  have HX5 := hideIt X5
  have HFIN : Hid (∀ W6 w6, w5.grownBy W6 none → Fr (fun i => i = w.heap.size + 1 ∨ i = w.heap.size + 2 ∨ i = w.heap.size + 3) W6 w6 → Cs w0 w6 OC5 p s t m rx.S rx.f ∧ (∀ i, OC5 i → O i ∨ w.heap.size ≤ i) ∧ Fr O w w6 ∧ TL w6 w0.heap.size (.slice xo vn vc) rx.T ∧ (∀ k, Value.ownBlock (.slice xo vn vc) = some k → ¬ OC5 k ∧ (O k ∨ w.heap.size ≤ k))) := hideIt (fun W6 w6 g6 F6 => ?fin)
  case fin =>
    have hsz := HR2.out.lt
    have hgs := (gbTrans g0 g2).size
    have hF : Fr O w w5 := (Fr.grown (gbTrans (gbTrans g0 g2) g4)).join F5 (fun i hi e => by
      rcases e with e | e
      · exact e
      · omega)
    have hsub : ∀ i, OC5 i → O i ∨ (w.heap.size ≤ i ∧ i ≠ w.heap.size + 1 ∧ i ≠ w.heap.size + 2 ∧ i ≠ w.heap.size + 3) := fun i hi => by
      rcases (HX5.out.sub i hi).1 with (e | e) | e
      · exact .inl e
      · exact absurd e (HX5.out.sub i hi).2
      · have := (HR4.out.lt); omega
    have hres : ∀ i, OC5 i → ¬ (i = w.heap.size + 1 ∨ i = w.heap.size + 2 ∨ i = w.heap.size + 3) := fun i hi k => by
      rcases hsub i hi with e | e
      · have := (HH.out.lo i e).2; omega
      · omega
    have hC6 := HX5.out.cs.kept g6
    have hC7 : Cs w0 w6 OC5 p s t m rx.S rx.f := by
      obtain ⟨OS, OT, h1, h2, h3, h4, h5⟩ := hC6.ex
      refine ⟨⟨OS, OT, h1.fr F6 (fun i hi => hres i (h4 i hi).1), h2.fr F6 (fun i hi => hres i (h5 i hi).1), h3, h4, h5⟩, (F6.block p hC6.plt (hres p hC6.op)).trans hC6.box, hC6.op, fun i hi => ⟨(hC6.lo i hi).1, Nat.lt_of_lt_of_le (hC6.lo i hi).2 F6.size⟩, ?_, hC6.gs, hC6.gt⟩
      have := HH.out.gr.size
      exact ((Fr.grown (O := fun i => i = w.heap.size + 1 ∨ i = w.heap.size + 2 ∨ i = w.heap.size + 3) hC6.gr).trans F6).new (fun i hi e => by rcases e with e | e | e <;> omega)
    refine ⟨hC7, fun i hi => ?_, ((hF.trans (Fr.grown g6)).join F6 (fun i hi e => by rcases e with e | e | e <;> omega)), (HX5.out.tl.kept g6).fr F6 (fun k hk e => ?_), fun k hk => ⟨(HX5.out.tv k hk).2.1, by
      rcases (HX5.out.tv k hk).1 with (z | z) | z
      · exact .inl z
      · exact absurd z (HX5.out.tv k hk).2.2
      · exact .inr (by have := HR4.out.lt; omega)⟩⟩
    · rcases hsub i hi with e | e
      · exact .inl e
      · exact .inr e.1
    · rcases (HX5.out.tv k hk).1 with (z | z) | z
      · have := (HH.out.lo k z).2; rcases e with e | e | e <;> omega
      · exact absurd z (HX5.out.tv k hk).2.2
      · have := HR4.out.lt; rcases e with e | e | e <;> omega
  have q1 := HX5.out.c2
  clear X5 F5 k4
  cases rq with
  | true =>
    obtain rfl : e = .panicked NS := he
    dsimp only
    go_wp2
    refine leaves_cons (f := 105) (args := #[.pointer (some ⟨w2.heap.size + 1, 0, none⟩), .pointer (some ⟨w.heap.size + 1, 0, none⟩), .pointer (some ⟨w.heap.size + 2, 0, none⟩), .pointer (some ⟨w.heap.size + 3, 0, none⟩)]) (by simp) (by simp [go_sem]) ?_
    refine (catch_more (w2.heap.size + 1) (w.heap.size + 1) (w.heap.size + 2) (w.heap.size + 3) w2.heap.size xo vn vc _ _ _ w5 Hk5.out q1 HR5.out.c1 HR5.out.c2 HR5.out.c3 HR5.out.f1 HR5.out.f2 HR5.out.f3 (by simp) (by simp) (by simp)).mono ?_
    rintro e u' w6 ⟨rfl, rfl, W6, g6, rfl⟩
    obtain ⟨W7, hW7, d1, d2, d3, F7⟩ := (HR5.out.kept g6).set (.slice xo vn vc) false 11
    rw [hW7]
    have HF := HFIN.out W6 W7 g6 F7
    clear hW7
    simp [Leaves, settle, results, Tryz.results65, go_sem, d1, d2, d3]
    exact ⟨_, HF⟩
  | false =>
    obtain rfl : e = .returned (.tuple #[]) := he
    have q2 := Hk5.out
    have r1 := HR5.out.c1
    have r2 := HR5.out.c2
    have r3 := HR5.out.c3
    have y1 := HR5.out.f1
    have y2 := HR5.out.f2
    have y3 := HR5.out.f3
    go_wp2
    obtain ⟨W7, hW7, d1, d2, d3, F7⟩ := HR5.out.set (.slice xo vn vc) true 0
    rw [hW7]
    have HF := HFIN.out w5 W7 (gbRefl _ _) F7
    clear hW7
    refine leaves_cons (f := 105) (args := #[.pointer (some ⟨w2.heap.size + 1, 0, none⟩), .pointer (some ⟨w.heap.size + 1, 0, none⟩), .pointer (some ⟨w.heap.size + 2, 0, none⟩), .pointer (some ⟨w.heap.size + 3, 0, none⟩)]) (by simp) (by simp [go_sem]) ?_
    refine (catch_idle _ _ _ _ _).mono ?_
    rintro e u' w6 ⟨rfl, rfl, rfl⟩
    simp [Leaves, settle, results, Tryz.results65, go_sem, d1, d2, d3]
    exact ⟨_, HF⟩

set_option maxHeartbeats 2000000 in
theorem inSteps_rev {w0 w : World} {O : Nat → Prop} {p s t m : Nat} {S : St} {f : T9.Fo} (h : Cs w0 w O p s t m S f) (a c : Int) (l A : Nat) (HRf : gRef w p a c l 0) (rq : Bool) (rx : M.X) (HA : Hid (SBox w A a c)) (nA : Hid (¬ O A))
    (HK : Hid (∀ (W : World) (O' : Nat → Prop) (M' : Nat), Rv w0 W O' p s t m M' ⟨S, f, l, []⟩ → SBox W A a c → ¬ O' A → Calls Tryz.prog 71 #[.pointer (some ⟨M', 0, none⟩), .pointer (some ⟨A, 0, none⟩)] W fun e w' => e = endOf rq ∧ Rv w0 w' (wide O' W w') p s t m M' rx ∧ Fr O' W w')) :
    Calls Tryz.prog 65 #[.pointer (some ⟨p, 0, none⟩), sv a c, .int .i64 (l : Int), .func (.func 71) #[] #[.pointer (some ⟨A, 0, none⟩)]] w fun x w' => ∃ tv Oc, x = .returned (.tuple #[tv, .bool (!rq), .int .i64 (if rq then 11 else 0)]) ∧ Cs w0 w' Oc p s t m rx.S rx.f ∧ (∀ i, Oc i → O i ∨ w.heap.size ≤ i) ∧ Fr O w w' ∧ TL w' w0.heap.size tv rx.T ∧ (∀ k, tv.ownBlock = some k → ¬ Oc k ∧ (O k ∨ w.heap.size ≤ k)) := by
  have hmf : ∀ (fn : Fn) (first cap : Array Value) (w : World), (Instr.makeFunc fn first cap).run Tryz.prog w = .ok (.func fn first cap) w := fun _ _ _ _ => rfl
  have HH := hideIt h
  clear h
  go_enter_defers Tryz.func65, Tryz.ntmps65
  go_upto_region 1 with fail
  obtain ⟨W, hW, ⟨x0, x1, _⟩, HR, g0⟩ := faceNew w a c
  rw [hW]
  clear hW
  have HRs := hideIt HR
  clear HR
  go_wp2_with fail
  refine (HRf W g0).mono ?_
  rintro _ w2 ⟨rfl, g2⟩
  have HR2 := hideIt (HRs.out.kept g2)
  have HC2 := hideIt (HH.out.kept (gbTrans g0 g2))
  clear x0 x1 HRs
  go_upto_region 5 with fail
  obtain ⟨W4, hW4, HV, k4, g4, z4⟩ := workNew HC2.out l
  rw [hW4]
  clear hW4
  have HV4 := hideIt HV
  have HR4 := hideIt (HR2.out.kept g4)
  have HA4 := hideIt (HA.out.kept (gbTrans (gbTrans g0 g2) g4))
  have nA4 : Hid (¬ (O A ∨ A = w2.heap.size)) := hideIt (fun e => by
    rcases e with e | e
    · exact nA.out e
    · have := (HA.out.kept (gbTrans g0 g2)).lt; omega)
  have Hk4 := hideIt k4
  have Hz4 := hideIt z4
  clear HV z4
  go_wp2_with fail
  refine (HK.out W4 _ w2.heap.size HV4.out HA4.out nA4.out).mono ?_
  rintro e w5 ⟨he, R5, F5⟩
  have HR5 : Hid (Res w5 w.heap.size (.slice none 0 0) false 0) := hideIt (HR4.out.fr F5 (fun e => ?no1) (fun e => ?no2) (fun e => ?no3))
  case no1 | no2 | no3 =>
    have h1 := HR2.out.lt
    rcases e with e | e
    · have := (HH.out.lo _ e).2; omega
    · omega
  have Hk5 : Hid (w5.cell? ⟨w2.heap.size + 1, 0, none⟩ = some (.pointer (some ⟨w2.heap.size, 0, none⟩))) := hideIt (F5.cell Hk4.out (fun e => by
    rcases e with e | e
    · have := (HC2.out.lo _ e).2
      change w2.heap.size + 1 < w2.heap.size at this
      omega
    · change w2.heap.size + 1 = w2.heap.size at e
      omega))
  obtain ⟨OC5, tv, X5⟩ := R5
  obtain ⟨xo, vn, vc, rfl⟩ : ∃ xo vn vc, tv = .slice xo vn vc := by
    rcases X5.tl.form with ⟨rfl, _⟩ | ⟨g, cap, rfl, _⟩
    · exact ⟨_, _, _, rfl⟩
    · exact ⟨_, _, _, rfl⟩
  have HX5 := hideIt X5
  have HFIN : Hid (∀ W6 w6, w5.grownBy W6 none → Fr (fun i => i = w.heap.size + 1 ∨ i = w.heap.size + 2 ∨ i = w.heap.size + 3) W6 w6 → Cs w0 w6 OC5 p s t m rx.S rx.f ∧ (∀ i, OC5 i → O i ∨ w.heap.size ≤ i) ∧ Fr O w w6 ∧ TL w6 w0.heap.size (.slice xo vn vc) rx.T ∧ (∀ k, Value.ownBlock (.slice xo vn vc) = some k → ¬ OC5 k ∧ (O k ∨ w.heap.size ≤ k))) := hideIt (fun W6 w6 g6 F6 => ?fin)
  case fin =>
    have hsz := HR2.out.lt
    have hgs := (gbTrans g0 g2).size
    have hF : Fr O w w5 := (Fr.grown (gbTrans (gbTrans g0 g2) g4)).join F5 (fun i hi e => by
      rcases e with e | e
      · exact e
      · omega)
    have hsub : ∀ i, OC5 i → O i ∨ (w.heap.size ≤ i ∧ i ≠ w.heap.size + 1 ∧ i ≠ w.heap.size + 2 ∧ i ≠ w.heap.size + 3) := fun i hi => by
      rcases (HX5.out.sub i hi).1 with (e | e) | e
      · exact .inl e
      · exact absurd e (HX5.out.sub i hi).2
      · have := (HR4.out.lt); omega
    have hres : ∀ i, OC5 i → ¬ (i = w.heap.size + 1 ∨ i = w.heap.size + 2 ∨ i = w.heap.size + 3) := fun i hi k => by
      rcases hsub i hi with e | e
      · have := (HH.out.lo i e).2; omega
      · omega
    have hC6 := HX5.out.cs.kept g6
    have hC7 : Cs w0 w6 OC5 p s t m rx.S rx.f := by
      obtain ⟨OS, OT, h1, h2, h3, h4, h5⟩ := hC6.ex
      refine ⟨⟨OS, OT, h1.fr F6 (fun i hi => hres i (h4 i hi).1), h2.fr F6 (fun i hi => hres i (h5 i hi).1), h3, h4, h5⟩, (F6.block p hC6.plt (hres p hC6.op)).trans hC6.box, hC6.op, fun i hi => ⟨(hC6.lo i hi).1, Nat.lt_of_lt_of_le (hC6.lo i hi).2 F6.size⟩, ?_, hC6.gs, hC6.gt⟩
      have := HH.out.gr.size
      exact ((Fr.grown (O := fun i => i = w.heap.size + 1 ∨ i = w.heap.size + 2 ∨ i = w.heap.size + 3) hC6.gr).trans F6).new (fun i hi e => by rcases e with e | e | e <;> omega)
    refine ⟨hC7, fun i hi => ?_, ((hF.trans (Fr.grown g6)).join F6 (fun i hi e => by rcases e with e | e | e <;> omega)), (HX5.out.tl.kept g6).fr F6 (fun k hk e => ?_), fun k hk => ⟨(HX5.out.tv k hk).2.1, by
      rcases (HX5.out.tv k hk).1 with (z | z) | z
      · exact .inl z
      · exact absurd z (HX5.out.tv k hk).2.2
      · exact .inr (by have := HR4.out.lt; omega)⟩⟩
    · rcases hsub i hi with e | e
      · exact .inl e
      · exact .inr e.1
    · rcases (HX5.out.tv k hk).1 with (z | z) | z
      · have := (HH.out.lo k z).2; rcases e with e | e | e <;> omega
      · exact absurd z (HX5.out.tv k hk).2.2
      · have := HR4.out.lt; rcases e with e | e | e <;> omega
  have q1 := HX5.out.c2
  clear X5 F5 k4
  cases rq with
  | true =>
    obtain rfl : e = .panicked NS := he
    dsimp only
    go_wp2
    refine leaves_cons (f := 105) (args := #[.pointer (some ⟨w2.heap.size + 1, 0, none⟩), .pointer (some ⟨w.heap.size + 1, 0, none⟩), .pointer (some ⟨w.heap.size + 2, 0, none⟩), .pointer (some ⟨w.heap.size + 3, 0, none⟩)]) (by simp) (by simp [go_sem]) ?_
    refine (catch_more (w2.heap.size + 1) (w.heap.size + 1) (w.heap.size + 2) (w.heap.size + 3) w2.heap.size xo vn vc _ _ _ w5 Hk5.out q1 HR5.out.c1 HR5.out.c2 HR5.out.c3 HR5.out.f1 HR5.out.f2 HR5.out.f3 (by simp) (by simp) (by simp)).mono ?_
    rintro e u' w6 ⟨rfl, rfl, W6, g6, rfl⟩
    obtain ⟨W7, hW7, d1, d2, d3, F7⟩ := (HR5.out.kept g6).set (.slice xo vn vc) false 11
    rw [hW7]
    have HF := HFIN.out W6 W7 g6 F7
    clear hW7
    simp [Leaves, settle, results, Tryz.results65, go_sem, d1, d2, d3]
    exact ⟨_, HF⟩
  | false =>
    obtain rfl : e = .returned (.tuple #[]) := he
    have q2 := Hk5.out
    have r1 := HR5.out.c1
    have r2 := HR5.out.c2
    have r3 := HR5.out.c3
    have y1 := HR5.out.f1
    have y2 := HR5.out.f2
    have y3 := HR5.out.f3
    go_wp2
    obtain ⟨W7, hW7, d1, d2, d3, F7⟩ := HR5.out.set (.slice xo vn vc) true 0
    rw [hW7]
    have HF := HFIN.out w5 W7 (gbRefl _ _) F7
    clear hW7
    refine leaves_cons (f := 105) (args := #[.pointer (some ⟨w2.heap.size + 1, 0, none⟩), .pointer (some ⟨w.heap.size + 1, 0, none⟩), .pointer (some ⟨w.heap.size + 2, 0, none⟩), .pointer (some ⟨w.heap.size + 3, 0, none⟩)]) (by simp) (by simp [go_sem]) ?_
    refine (catch_idle _ _ _ _ _).mono ?_
    rintro e u' w6 ⟨rfl, rfl, rfl⟩
    simp [Leaves, settle, results, Tryz.results65, go_sem, d1, d2, d3]
    exact ⟨_, HF⟩

set_option maxHeartbeats 1000000 in
theorem clo_del {w0 W : World} {O' : Nat → Prop} {p s t m M' : Nat} {X : M.X} (R : Rv w0 W O' p s t m M' X) (A : Nat) (a c : Int) (HA : SBox W A a c) (nA : ¬ O' A) (rq : Bool) (rx : M.X) (HC : Calls Tryz.prog 67 #[.pointer (some ⟨M', 0, none⟩), sv a c, .slice none 0 0] W fun e w' => e = endOf rq ∧ Rv w0 w' (wide O' W w') p s t m M' rx ∧ Fr O' W w') :
    Calls Tryz.prog 66 #[.pointer (some ⟨M', 0, none⟩), .pointer (some ⟨A, 0, none⟩)] W fun e w' => e = endOf rq ∧ Rv w0 w' (wide O' W w') p s t m M' rx ∧ Fr O' W w' := by
  obtain ⟨x0, x1, _⟩ := HA
  go_enter Tryz.func66, Tryz.ntmps66
  go_wp2_with fail
  refine HC.mono ?_
  rintro e w1 ⟨he, H1⟩
  cases rq with
  | true =>
    obtain rfl : e = .panicked NS := he
    dsimp only
    go_wp2
    exact ⟨rfl, rfl, H1⟩
  | false =>
    obtain rfl : e = .returned (.tuple #[]) := he
    go_wp2
    exact bodyPost_end (results_none rfl _ _ _) rfl ⟨rfl, H1⟩

set_option maxHeartbeats 1000000 in
theorem clo_rev {w0 W : World} {O' : Nat → Prop} {p s t m M' : Nat} {X : M.X} (R : Rv w0 W O' p s t m M' X) (A : Nat) (a c : Int) (HA : SBox W A a c) (nA : ¬ O' A) (rq : Bool) (rx : M.X) (HC : Calls Tryz.prog 72 #[.pointer (some ⟨M', 0, none⟩), sv a c] W fun e w' => e = endOf rq ∧ Rv w0 w' (wide O' W w') p s t m M' rx ∧ Fr O' W w') :
    Calls Tryz.prog 71 #[.pointer (some ⟨M', 0, none⟩), .pointer (some ⟨A, 0, none⟩)] W fun e w' => e = endOf rq ∧ Rv w0 w' (wide O' W w') p s t m M' rx ∧ Fr O' W w' := by
  obtain ⟨x0, x1, _⟩ := HA
  go_enter Tryz.func71, Tryz.ntmps71
  go_wp2_with fail
  refine HC.mono ?_
  rintro e w1 ⟨he, H1⟩
  cases rq with
  | true =>
    obtain rfl : e = .panicked NS := he
    dsimp only
    go_wp2
    exact ⟨rfl, rfl, H1⟩
  | false =>
    obtain rfl : e = .returned (.tuple #[]) := he
    go_wp2
    exact bodyPost_end (results_none rfl _ _ _) rfl ⟨rfl, H1⟩

set_option maxHeartbeats 1000000 in
theorem delete_core (w : World) (p : Nat) (a c l : Int) (R : Ending → World → Prop) (W : World) (hW : w.alloc (.cells #[.int .i64 a, .int .i64 c] 31) = W) (HC : Hid (Calls Tryz.prog 65 #[.pointer (some ⟨p, 0, none⟩), sv a c, .int .i64 l, .func (.func 66) #[] #[.pointer (some ⟨w.heap.size, 0, none⟩)]] W fun x w' => ∃ tv d e, x = .returned (.tuple #[tv, .bool d, .int .i64 e]) ∧ R x w')) :
    Calls Tryz.prog 20 #[.pointer (some ⟨p, 0, none⟩), sv a c, .int .i64 l] w R := by
  have hmf : ∀ (fn : Fn) (first cap : Array Value) (w : World), (Instr.makeFunc fn first cap).run Tryz.prog w = .ok (.func fn first cap) w := fun _ _ _ _ => rfl
  have X := SBox.made w a c
  rw [hW] at X
  obtain ⟨x0, x1, _⟩ := X
  go_enter Tryz.func20, Tryz.ntmps20
  go_wp2_with fail
  refine HC.out.mono ?_
  rintro _ w2 ⟨tv, d, e, rfl, h⟩
  go_wp2
  exact bodyPost_ret (v := .tuple #[tv, .bool d, .int .i64 e]) (by simp [results, Tryz.results20, go_sem]) rfl h

set_option maxHeartbeats 1000000 in
theorem revoke_core (w : World) (p : Nat) (a c l : Int) (R : Ending → World → Prop) (W : World) (hW : w.alloc (.cells #[.int .i64 a, .int .i64 c] 31) = W) (HC : Hid (Calls Tryz.prog 65 #[.pointer (some ⟨p, 0, none⟩), sv a c, .int .i64 l, .func (.func 71) #[] #[.pointer (some ⟨w.heap.size, 0, none⟩)]] W fun x w' => ∃ tv d e, x = .returned (.tuple #[tv, .bool d, .int .i64 e]) ∧ R x w')) :
    Calls Tryz.prog 23 #[.pointer (some ⟨p, 0, none⟩), sv a c, .int .i64 l] w R := by
  have hmf : ∀ (fn : Fn) (first cap : Array Value) (w : World), (Instr.makeFunc fn first cap).run Tryz.prog w = .ok (.func fn first cap) w := fun _ _ _ _ => rfl
  have X := SBox.made w a c
  rw [hW] at X
  obtain ⟨x0, x1, _⟩ := X
  go_enter Tryz.func23, Tryz.ntmps23
  go_wp2_with fail
  refine HC.out.mono ?_
  rintro _ w2 ⟨tv, d, e, rfl, h⟩
  go_wp2
  exact bodyPost_ret (v := .tuple #[tv, .bool d, .int .i64 e]) (by simp [results, Tryz.results23, go_sem]) rfl h

namespace M
/-- What a call that takes away answers. -/
def faceE (S : St) (a : Int × Int) (l : Int) : Int := if 1 ≤ l ∧ l ≤ 1000 then srcE S a else 1
def delR (S : St) (f : T9.Fo) (a : Int × Int) (l : Int) : Bool × X := away f.len ⟨S, f, l.toNat, []⟩ a []
def revR (S : St) (f : T9.Fo) (a : Int × Int) (l : Int) : Bool × X := rvk (f.len + 1) ⟨S, f, l.toNat, []⟩ a
theorem faceE_ok {S : St} {a : Int × Int} {l : Int} (h : faceE S a l = 0) : 1 ≤ l ∧ l ≤ 1000 ∧ (gc S a).k ≠ 0 := by
  unfold faceE at h
  split at h
  · rename_i hl; exact ⟨hl.1, hl.2, (srcE_ok h).2⟩
  · cases h
end M

theorem Cs.delete_no {w0 w : World} {O : Nat → Prop} {p s t m : Nat} {S : St} {f : T9.Fo} (h : Cs w0 w O p s t m S f) (a c l e : Int) (ha : I64 a) (he : M.faceE S (a, c) l = e) (hne : (e != 0) = true) :
    Calls Tryz.prog 20 #[.pointer (some ⟨p, 0, none⟩), sv a c, .int .i64 l] w fun x w' => x = .returned (.tuple #[.slice none 0 0, .bool false, .int .i64 e]) ∧ w.grownBy w' none := by
  have g := gbAlloc w (.cells #[.int .i64 a, .int .i64 c] 31) none
  refine delete_core w p a c l _ _ rfl (hideIt ((inSteps_no _ p a c l e _ (fun W gW => ((h.kept g).kept gW).refusal a c l e ha he) hne).mono ?_))
  rintro _ w' ⟨rfl, g'⟩
  exact ⟨_, _, _, rfl, rfl, gbTrans g g'⟩
theorem Cs.delete_yes {w0 w : World} {O : Nat → Prop} {p s t m : Nat} {S : St} {f : T9.Fo} (h : Cs w0 w O p s t m S f) (I : M.Inv S f) (a c l : Int) (ha : I64 a) (hc : I64 c) (hm : f.len ≤ 1000) (he : M.faceE S (a, c) l = 0) (rq : Bool) (rx : M.X) (hr : M.delR S f (a, c) l = (rq, rx)) :
    Calls Tryz.prog 20 #[.pointer (some ⟨p, 0, none⟩), sv a c, .int .i64 l] w fun x w' => ∃ tv Oc, x = .returned (.tuple #[tv, .bool (!rq), .int .i64 (if rq then 11 else 0)]) ∧ Cs w0 w' Oc p s t m rx.S rx.f ∧ (∀ i, Oc i → O i ∨ w.heap.size ≤ i) ∧ Fr O w w' ∧ TL w' w0.heap.size tv rx.T ∧ (∀ k, tv.ownBlock = some k → ¬ Oc k ∧ (O k ∨ w.heap.size ≤ k)) := by
  have g := gbAlloc w (.cells #[.int .i64 a, .int .i64 c] 31) none
  have hz : (w.alloc (.cells #[.int .i64 a, .int .i64 c] 31)).heap.size = w.heap.size + 1 := Deep.nblk_alloc _ _
  obtain ⟨l1, l2, hf⟩ := M.faceE_ok he
  obtain ⟨L, rfl⟩ : ∃ L : Nat, l = (L : Int) := ⟨l.toNat, by omega⟩
  have hk := h.kept g
  have ok : M.Ok ⟨S, f, L, []⟩ := ⟨I, h.gs, h.gt⟩
  unfold M.delR at hr
  rw [Int.toNat_natCast] at hr
  refine delete_core w p a c L _ _ rfl (hideIt ((inSteps_del hk a c L w.heap.size (fun W gW => (hk.kept gW).refusal a c L 0 ha he) rq rx (hideIt (SBox.made w a c)) (hideIt (fun e => by have := (h.lo _ e).2; omega)) (hideIt (fun W O' M' R hA nA => clo_del R w.heap.size a c hA nA rq rx ?_))).mono ?_))
  · refine (R.away f.len ok a c (.slice none 0 0) [] (Lst.nil _ _) (fun k hk => by cases hk) hf (by simp) (by rw [M.free_nil]; exact Nat.le_refl _) hm (by show 0 + L ≤ 1000; omega) (by simpa using hm) rq rx hr).mono ?_
    rintro e w1 ⟨he, R1, _, F1⟩
    exact ⟨he, R1, F1.mono (fun i _ e => by rcases e with e | e; exact e; cases e)⟩
  · rintro _ w' ⟨tv, Oc, rfl, C, hs, F, T, hn⟩
    exact ⟨_, _, _, rfl, tv, Oc, rfl, C, fun i hi => by rcases hs i hi with e | e; exact .inl e; exact .inr (by omega), (Fr.grown g).trans F, T, fun k hk => ⟨(hn k hk).1, by rcases (hn k hk).2 with e | e; exact .inl e; exact .inr (by omega)⟩⟩

theorem Cs.revoke_no {w0 w : World} {O : Nat → Prop} {p s t m : Nat} {S : St} {f : T9.Fo} (h : Cs w0 w O p s t m S f) (a c l e : Int) (ha : I64 a) (he : M.faceE S (a, c) l = e) (hne : (e != 0) = true) :
    Calls Tryz.prog 23 #[.pointer (some ⟨p, 0, none⟩), sv a c, .int .i64 l] w fun x w' => x = .returned (.tuple #[.slice none 0 0, .bool false, .int .i64 e]) ∧ w.grownBy w' none := by
  have g := gbAlloc w (.cells #[.int .i64 a, .int .i64 c] 31) none
  refine revoke_core w p a c l _ _ rfl (hideIt ((inSteps_no _ p a c l e _ (fun W gW => ((h.kept g).kept gW).refusal a c l e ha he) hne).mono ?_))
  rintro _ w' ⟨rfl, g'⟩
  exact ⟨_, _, _, rfl, rfl, gbTrans g g'⟩
theorem Cs.revoke_yes {w0 w : World} {O : Nat → Prop} {p s t m : Nat} {S : St} {f : T9.Fo} (h : Cs w0 w O p s t m S f) (I : M.Inv S f) (a c l : Int) (ha : I64 a) (hc : I64 c) (hm : f.len ≤ 1000) (he : M.faceE S (a, c) l = 0) (rq : Bool) (rx : M.X) (hr : M.revR S f (a, c) l = (rq, rx)) :
    Calls Tryz.prog 23 #[.pointer (some ⟨p, 0, none⟩), sv a c, .int .i64 l] w fun x w' => ∃ tv Oc, x = .returned (.tuple #[tv, .bool (!rq), .int .i64 (if rq then 11 else 0)]) ∧ Cs w0 w' Oc p s t m rx.S rx.f ∧ (∀ i, Oc i → O i ∨ w.heap.size ≤ i) ∧ Fr O w w' ∧ TL w' w0.heap.size tv rx.T ∧ (∀ k, tv.ownBlock = some k → ¬ Oc k ∧ (O k ∨ w.heap.size ≤ k)) := by
  have g := gbAlloc w (.cells #[.int .i64 a, .int .i64 c] 31) none
  have hz : (w.alloc (.cells #[.int .i64 a, .int .i64 c] 31)).heap.size = w.heap.size + 1 := Deep.nblk_alloc _ _
  obtain ⟨l1, l2, hf⟩ := M.faceE_ok he
  obtain ⟨L, rfl⟩ : ∃ L : Nat, l = (L : Int) := ⟨l.toNat, by omega⟩
  have hk := h.kept g
  have ok : M.Ok ⟨S, f, L, []⟩ := ⟨I, h.gs, h.gt⟩
  unfold M.revR at hr
  rw [Int.toNat_natCast] at hr
  refine revoke_core w p a c L _ _ rfl (hideIt ((inSteps_rev hk a c L w.heap.size (fun W gW => (hk.kept gW).refusal a c L 0 ha he) rq rx (hideIt (SBox.made w a c)) (hideIt (fun e => by have := (h.lo _ e).2; omega)) (hideIt (fun W O' M' R hA nA => clo_rev R w.heap.size a c hA nA rq rx ?_))).mono ?_))
  · exact R.kin ok a c ha hc hm (by show 0 + L ≤ 1000; omega) (f.len + 1) (Nat.lt_succ_self _) rq rx hr
  · rintro _ w' ⟨tv, Oc, rfl, C, hs, F, T, hn⟩
    exact ⟨_, _, _, rfl, tv, Oc, rfl, C, fun i hi => by rcases hs i hi with e | e; exact .inl e; exact .inr (by omega), (Fr.grown g).trans F, T, fun k hk => ⟨(hn k hk).1, by rcases (hn k hk).2 with e | e; exact .inl e; exact .inr (by omega)⟩⟩
end Go.Proofs.YtdnoidnpiaadaaaGreat

/-
  FEW STEPS TELL THE SAME AS MANY; WHAT IS TOLD HAS NO CAPABILITY ANY MORE, PLAINLY (RevokeTells). Speaks of no function of the program.
-/
namespace Go.Proofs.YtdnoidnpiaadaaaGreat
set_option maxRecDepth 10000
set_option linter.unusedVariables false
namespace M
theorem row_nodup (id : Int) (d : Nd) (j : Nat) : (rowTo id d j).Nodup := by
  unfold rowTo
  refine T9.Fo.nodup_map_in _ _ ((List.nodup_range (n := j)).filter _) fun x _ y _ e => ?_
  simp only [Prod.mk.injEq, true_and] at e
  omega
theorem row_fst {id : Int} {d : Nd} {j : Nat} {x : Int × Int} (h : x ∈ rowTo id d j) : x.1 = id := by
  unfold rowTo at h
  obtain ⟨i, _, rfl⟩ := List.mem_map.1 h
  rfl
theorem fullTo_fst {S : St} : ∀ {m : Nat} {x : Int × Int}, x ∈ fullTo S m → x.1 < m := by
  intro m x h
  unfold fullTo at h
  obtain ⟨id, hid, hx⟩ := List.mem_flatMap.1 h
  cases hs : S id with
  | none => rw [hs] at hx; cases hx
  | some d =>
    rw [hs] at hx
    have := row_fst hx
    simp at hid
    omega
theorem fullTo_step (S : St) (m : Nat) : fullTo S (m + 1) = fullTo S m ++ (match S m with | none => [] | some d => rowTo (m : Int) d 16) := by
  unfold fullTo
  rw [List.range_succ, List.flatMap_append, List.flatMap_cons, List.flatMap_nil, List.append_nil]
  cases S m <;> rfl
theorem fullTo_nodup (S : St) : ∀ m, (fullTo S m).Nodup
  | 0 => by simp [fullTo]
  | m + 1 => by
    rw [fullTo_step]
    refine List.nodup_append.2 ⟨fullTo_nodup S m, ?_, fun x hx y hy e => ?_⟩
    · cases S m with
      | none => simp
      | some d => exact row_nodup _ _ _
    · have h1 := fullTo_fst hx
      subst e
      cases hs : S m with
      | none => rw [hs] at hy; cases hy
      | some d => rw [hs] at hy; have := row_fst hy; omega
theorem full_nodup (S : St) : (full S).Nodup := fullTo_nodup S 64
/-- Two lists without doubles: one lacks just x. -/
theorem nodup_less {x : Int × Int} : ∀ {l k : List (Int × Int)}, l.Nodup → k.Nodup → x ∈ l → (∀ y, y ∈ k ↔ y ∈ l ∧ y ≠ x) → k.length + 1 = l.length
  | l, k, hl, hk, hx, h => by
    have h1 : k.Perm (l.erase x) := by
      rw [List.perm_ext_iff_of_nodup hk (hl.erase x)]
      intro y
      rw [h y, hl.mem_erase_iff]
      exact ⟨fun ⟨a, b⟩ => ⟨b, a⟩, fun ⟨a, b⟩ => ⟨b, a⟩⟩
    rw [h1.length_eq, List.length_erase_of_mem hx]
    have := List.length_pos_of_mem hx
    omega
/-! ### The slots in their order -/
def uni (m : Nat) : List (Int × Int) := (List.range m).flatMap fun id : Nat => (List.range 16).map fun i : Nat => ((id : Int), (i : Int))
theorem uni_step (m : Nat) : uni (m + 1) = uni m ++ (List.range 16).map fun i : Nat => ((m : Int), (i : Int)) := by
  unfold uni
  rw [show List.range (m + 1) = List.range m ++ [m] from List.range_succ, List.flatMap_append]
  simp
theorem row_gc {S : St} (G : Good S) (m : Nat) : (match S m with | none => [] | some d => rowTo (m : Int) d 16) = ((List.range 16).map fun i : Nat => ((m : Int), (i : Int))).filter (fun s => (gc S s).k != 0) := by
  cases h : S m with
  | none =>
    refine (List.filter_eq_nil_iff.2 (fun s hs => ?_)).symm
    obtain ⟨i, _, rfl⟩ := List.mem_map.1 hs
    have : gc S ((m : Int), (i : Int)) = C.zero := by unfold gc getC; simp only [h]
    rw [this]; decide
  | some d =>
    simp only
    unfold rowTo
    rw [List.filter_map]
    congr 1
    refine List.filter_congr (fun i hi => ?_)
    show _ = ((gc S ((m : Int), (i : Int))).k != 0)
    by_cases h2 : i < 2 ^ d.r
    · rw [show gc S ((m : Int), (i : Int)) = d.f i from getC_at h h2]
    · rw [G.out _ _ _ h (by omega)]
      have : gc S ((m : Int), (i : Int)) = C.zero := by
        refine gc_no ?_
        cases e : th S ((m : Int), (i : Int)) with
        | false => rfl
        | true =>
          obtain ⟨d', j, h3, h4, h5⟩ := there_yes e
          simp only at h3 h4
          rw [h] at h3; cases h3
          omega
      rw [this]
theorem fullTo_uni {S : St} (G : Good S) : ∀ m, fullTo S m = (uni m).filter (fun s => (gc S s).k != 0)
  | 0 => rfl
  | m + 1 => by rw [fullTo_step, uni_step, List.filter_append, fullTo_uni G m]; exact congrArg _ (row_gc G m)
theorem find_less {p q : Int × Int → Bool} {b : Int × Int} (hq : ∀ s, q s = true → p s = true) (hb : q b = true) : ∀ {l : List (Int × Int)}, l.find? p = some b → l.find? q = some b
  | [], h => by cases h
  | x :: l, h => by
    rw [List.find?_cons] at h ⊢
    cases hp : p x with
    | true =>
      rw [hp] at h
      simp only [Option.some.injEq] at h
      rw [h, hb]
    | false =>
      rw [hp] at h
      have : q x = false := by
        cases e : q x with
        | false => rfl
        | true => rw [hq x e] at hp; cases hp
      rw [this]
      exact find_less hq hb h

/-! ### How many are of an object, step by step -/
def tn (T : List C) (k o : Int) : Nat := (T.filter (fun c => c.k == k && c.o == o)).length
structure Ct (x y : X) : Prop where
  le : ∀ k o, cnt y.S k o ≤ cnt x.S k o
  tn : ∀ k o, M.tn y.T k o = M.tn x.T k o + (if 0 < cnt x.S k o ∧ cnt y.S k o = 0 then 1 else 0)
theorem Ct.refl (x : X) : Ct x x := ⟨fun _ _ => Nat.le_refl _, fun k o => by rw [if_neg (by omega)]; rfl⟩
theorem Ct.trans {x y z : X} (h : Ct x y) (g : Ct y z) : Ct x z := by
  refine ⟨fun k o => Nat.le_trans (g.le k o) (h.le k o), fun k o => ?_⟩
  have h1 := h.le k o
  have h2 := g.le k o
  rw [g.tn, h.tn]
  by_cases e1 : 0 < cnt x.S k o ∧ cnt y.S k o = 0
  · rw [if_pos e1, if_neg (by omega), if_pos (by omega)]
  · rw [if_neg e1]
    by_cases e2 : 0 < cnt y.S k o ∧ cnt z.S k o = 0
    · rw [if_pos e2, if_pos (by omega)]
    · rw [if_neg e2, if_neg (by omega)]
theorem hit_iff {S : St} {k o : Int} {s : Int × Int} : hit S k o s = true ↔ (gc S s).k = k ∧ (gc S s).o = o := by
  unfold hit gc
  simp
theorem Ct.one {x : X} (h : Ok x) {a : Int × Int} (ha : (gc x.S a).k ≠ 0) : Ct x (one x a) := by
  have hs := srcE_yes ha
  have hg : ∀ s, gc (M.one x a).S s = if s = a then C.zero else gc x.S s := fun s => gc_fall h.s a s hs
  have ok := h.one ha
  have key : ∀ k o, cnt x.S k o = cnt (M.one x a).S k o + (if (gc x.S a).k = k ∧ (gc x.S a).o = o then 1 else 0) := fun k o => by
    have hm : ∀ s, s ∈ (full (M.one x a).S).filter (hit (M.one x a).S k o) ↔ s ∈ (full x.S).filter (hit x.S k o) ∧ s ≠ a := fun s => by
      rw [List.mem_filter, List.mem_filter, mem_full ok.s, mem_full h.s, hit_iff, hit_iff, hg]
      by_cases e : s = a
      · rw [if_pos e]; simp [e]
      · rw [if_neg e]; simp [e]
    have n1 : ((full x.S).filter (hit x.S k o)).Nodup := List.Nodup.sublist List.filter_sublist (full_nodup _)
    have n2 : ((full (M.one x a).S).filter (hit (M.one x a).S k o)).Nodup := List.Nodup.sublist List.filter_sublist (full_nodup _)
    unfold cnt cntL
    by_cases e : (gc x.S a).k = k ∧ (gc x.S a).o = o
    · rw [if_pos e]
      have hin : a ∈ (full x.S).filter (hit x.S k o) := List.mem_filter.2 ⟨(mem_full h.s a).2 ha, hit_iff.2 e⟩
      exact (nodup_less n1 n2 hin hm).symm
    · rw [if_neg e]
      have hin : a ∉ (full x.S).filter (hit x.S k o) := fun k' => e (hit_iff.1 (List.mem_filter.1 k').2)
      have l1 := subs_len _ _ n1 (fun y hy => (hm y).2 ⟨hy, fun e' => hin (by rw [← e']; exact hy)⟩)
      have l2 := subs_len _ _ n2 (fun y hy => ((hm y).1 hy).1)
      omega
  refine ⟨fun k o => by have := key k o; omega, fun k o => ?_⟩
  have hk := key k o
  show M.tn (if fin x.S a then x.T ++ [gc x.S a] else x.T) k o = _
  by_cases e : (gc x.S a).k = k ∧ (gc x.S a).o = o
  · rw [if_pos e] at hk
    have hfin : fin x.S a = decide (cnt x.S k o = 1) := by
      unfold fin
      rw [e.1, e.2]
      by_cases e1 : cnt x.S k o = 1
      · rw [e1]; rfl
      · simp [e1]; omega
    by_cases e1 : cnt x.S k o = 1
    · rw [hfin, if_pos (by simp [e1]), if_pos (by omega)]
      unfold M.tn
      rw [List.filter_append, List.filter_cons_of_pos (by simp [e.1, e.2])]
      simp
    · rw [hfin, if_neg (by simp [e1]), if_neg (by omega)]; rfl
  · rw [if_neg e] at hk
    have hz : ¬ (0 < cnt x.S k o ∧ cnt (M.one x a).S k o = 0) := by omega
    rw [if_neg hz]
    split
    · unfold M.tn
      rw [List.filter_append, List.filter_cons_of_neg (by simpa using e)]
      simp
    · rfl
theorem Ct.stp {x : X} (h : Ok x) {a : Int × Int} (ha : (gc x.S a).k ≠ 0) : Ct x (stp x a).2 := by
  unfold M.stp
  split
  · exact Ct.refl x
  · exact Ct.one h ha
theorem away_ct : ∀ (n : Nat) (x : X) (a : Int × Int) (L : List (Int × Int)), Ok x → (gc x.S a).k ≠ 0 → a ∉ L → free x.f L ≤ n → Ct x (away n x a L).2
  | 0, x, a, L, h, ha, hL, hn => Ct.refl x
  | n + 1, x, a, L, h, ha, hL, hn => by
    cases hb : ahd x.S a (L ++ [a]) with
    | none => rw [away_none hb]; exact Ct.stp h ha
    | some b =>
      rw [away_some hb]
      obtain ⟨_, _, b1, b2, _⟩ := ahd_some h.s hb
      have hf := free_less h.t.nd (h.mem.2 ha) hL
      have g := away_ok n x b (L ++ [a]) h b1 b2 (by omega)
      have c := away_ct n x b (L ++ [a]) h b1 b2 (by omega)
      generalize away n x b (L ++ [a]) = r at g c
      obtain ⟨q, y⟩ := r
      cases q with
      | true => exact c
      | false =>
        obtain ⟨k1, k2, k3⟩ := g.next h b1 b2
        exact Ct.trans c (away_ct n y a L k1 (by rw [k2]; exact ha) hL (by omega))

/-! ### The same again -/
theorem away_fuel : ∀ (n n' : Nat) (x : X) (a : Int × Int) (L : List (Int × Int)), Ok x → (gc x.S a).k ≠ 0 → a ∉ L → free x.f L ≤ n → free x.f L ≤ n' → away n x a L = away n' x a L
  | 0, n', x, a, L, h, ha, hL, hn, hn' => by have := free_pos h.t.nd (h.mem.2 ha) hL; omega
  | n + 1, 0, x, a, L, h, ha, hL, hn, hn' => by have := free_pos h.t.nd (h.mem.2 ha) hL; omega
  | n + 1, n' + 1, x, a, L, h, ha, hL, hn, hn' => by
    cases hb : ahd x.S a (L ++ [a]) with
    | none => rw [away_none hb, away_none hb]
    | some b =>
      rw [away_some hb, away_some hb]
      obtain ⟨_, _, b1, b2, _⟩ := ahd_some h.s hb
      have hf := free_less h.t.nd (h.mem.2 ha) hL
      have g := away_ok n x b (L ++ [a]) h b1 b2 (by omega)
      rw [← away_fuel n n' x b (L ++ [a]) h b1 b2 (by omega) (by omega)]
      generalize away n x b (L ++ [a]) = r at g
      obtain ⟨q, y⟩ := r
      cases q with
      | true => rfl
      | false =>
        obtain ⟨k1, k2, k3⟩ := g.next h b1 b2
        exact away_fuel n n' y a L k1 (by rw [k2]; exact ha) hL (by omega) (by omega)
def pl (x : X) (j : Nat) : X := ⟨x.S, x.f, x.l + j, x.T⟩
theorem Ok.pl {x : X} (h : Ok x) (j : Nat) : Ok (M.pl x j) := ⟨h.i, h.s, h.t⟩
theorem ahd_again {x y : X} {a b : Int × Int} {L : List (Int × Int)} (h : Ok x) (ha : (gc x.S a).k ≠ 0) (hb : ahd x.S a (L ++ [a]) = some b) (g : Gone x b (L ++ [a]) (true, y)) (c : Ct x y) : ahd y.S a (L ++ [a]) = some b := by
  obtain ⟨a1, a2, b1, b2, b3⟩ := ahd_some h.s hb
  have ga : gc y.S a = gc x.S a := g.stay a (by simp)
  have gb : gc y.S b = gc x.S b := (g.more rfl).2
  have hfy : fin y.S a = true := by
    have h1 := c.le (gc x.S a).k (gc x.S a).o
    have h2 : cnt x.S (gc x.S a).k (gc x.S a).o = 1 := by
      unfold fin at a2
      simp only [beq_iff_eq] at a2
      omega
    have h3 : 0 < cnt y.S (gc x.S a).k (gc x.S a).o := by
      unfold cnt cntL
      refine List.length_pos_of_mem (a := a) (List.mem_filter.2 ⟨(mem_full g.ok.s a).2 (by rw [ga]; exact ha), hit_iff.2 (by rw [ga]; exact ⟨rfl, rfl⟩)⟩)
    unfold fin
    rw [ga]
    simp only [beq_iff_eq]
    omega
  unfold ahd at hb ⊢
  rw [if_pos (by rw [a1, a2]; rfl)] at hb
  rw [if_pos (by rw [ga, a1, hfy]; rfl), ga]
  unfold full at hb ⊢
  rw [fullTo_uni h.s, List.find?_filter] at hb
  rw [fullTo_uni g.ok.s, List.find?_filter]
  refine find_less (fun s hs => ?_) ?_ hb
  · simp only [Bool.and_eq_true, bne_iff_ne, ne_eq, decide_eq_true_eq] at hs ⊢
    refine ⟨?_, hs.2⟩
    rcases g.gc s with e | e
    · rw [← e]; exact hs.1
    · rw [e] at hs; exact absurd rfl hs.1
  · simp only [Bool.and_eq_true, bne_iff_ne, ne_eq, decide_eq_true_eq, beq_iff_eq, Bool.not_eq_true', decide_eq_false_iff_not]
    exact ⟨by rw [gb]; exact b1, b3, b2⟩
theorem away_more : ∀ (n : Nat) (x : X) (a : Int × Int) (L : List (Int × Int)) (j : Nat), Ok x → (gc x.S a).k ≠ 0 → a ∉ L → free x.f L ≤ n →
    (∀ y, away n x a L = (false, y) → away n (pl x j) a L = (false, pl y j)) ∧ (∀ y, away n x a L = (true, y) → away n (pl x j) a L = away n (pl y j) a L)
  | 0, x, a, L, j, h, ha, hL, hn => by have := free_pos h.t.nd (h.mem.2 ha) hL; omega
  | n + 1, x, a, L, j, h, ha, hL, hn => by
    cases hb : ahd x.S a (L ++ [a]) with
    | none =>
      rw [away_none hb]
      have hb' : ahd (pl x j).S a (L ++ [a]) = none := hb
      rw [away_none hb']
      unfold stp
      by_cases e : x.l = 0
      · rw [if_pos e]
        refine ⟨fun y hy => ?_, fun y hy => ?_⟩
        · cases hy
        · simp only [Prod.mk.injEq, true_and] at hy
          subst hy
          rw [away_none hb']; rfl
      · rw [if_neg e]
        refine ⟨fun y hy => ?_, fun y hy => ?_⟩
        · simp only [Prod.mk.injEq, true_and] at hy
          subst hy
          rw [if_neg (by show ¬ x.l + j = 0; omega)]
          simp only [Prod.mk.injEq, true_and]
          show (⟨fall x.S a, takF x.S x.f a, x.l + j - 1, _⟩ : X) = ⟨fall x.S a, takF x.S x.f a, x.l - 1 + j, _⟩
          rw [show x.l + j - 1 = x.l - 1 + j by omega]; rfl
        · simp at hy
    | some b =>
      have hb' : ahd (pl x j).S a (L ++ [a]) = some b := hb
      rw [away_some hb, away_some hb']
      obtain ⟨_, _, b1, b2, _⟩ := ahd_some h.s hb
      have hf := free_less h.t.nd (h.mem.2 ha) hL
      have g := away_ok n x b (L ++ [a]) h b1 b2 (by omega)
      have c := away_ct n x b (L ++ [a]) h b1 b2 (by omega)
      obtain ⟨i1, i2⟩ := away_more n x b (L ++ [a]) j h b1 b2 (by omega)
      obtain ⟨⟨q, y1⟩, hr⟩ : ∃ r, away n x b (L ++ [a]) = r := ⟨_, rfl⟩
      rw [hr] at g c i1 i2
      rw [hr]
      cases q with
      | true =>
        simp only
        refine ⟨fun y hy => (by cases hy), fun y hy => ?_⟩
        simp only [Prod.mk.injEq, true_and] at hy
        subst hy
        have hy0 : ahd y1.S a (L ++ [a]) = some b := ahd_again h ha hb g c
        have hy1 : ahd (pl y1 j).S a (L ++ [a]) = some b := hy0
        rw [i2 y1 rfl, away_some hy1]
      | false =>
        simp only
        rw [i1 y1 rfl]
        simp only
        obtain ⟨k1, k2, k3⟩ := g.next h b1 b2
        have ha1 : (gc y1.S a).k ≠ 0 := by rw [k2]; exact ha
        obtain ⟨j1, j2⟩ := away_more n y1 a L j k1 ha1 hL (by omega)
        refine ⟨j1, fun y hy => ?_⟩
        rw [j2 y hy]
        have g2 := away_ok n y1 a L k1 ha1 hL (by omega)
        rw [hy] at g2
        have hay : (gc y.S a).k ≠ 0 := by rw [show gc y.S a = _ from (g2.more rfl).2]; exact ha1
        have hfr : free y.f L ≤ n := by
          have := subs_len (y.f.pre.filter (fun s => !decide (s ∈ L))) (y1.f.pre.filter (fun s => !decide (s ∈ L))) (List.Nodup.sublist List.filter_sublist g2.ok.t.nd) (fun s hs => by
            rw [List.mem_filter] at hs ⊢
            exact ⟨g2.sub k1 s hs.1, hs.2⟩)
          unfold free at k3 hn ⊢
          unfold free at hf
          omega
        exact away_fuel n (n + 1) (pl y j) a L (g2.ok.pl j) hay hL hfr (by show free y.f L ≤ n + 1; omega)
end M
end Go.Proofs.YtdnoidnpiaadaaaGreat

/-
  THE DOCUMENT'S STEPS, PLAINLY: each step begins at the root again; all of them together are what one call takes away. Speaks of no function of the program.
-/
namespace Go.Proofs.YtdnoidnpiaadaaaGreat
set_option maxRecDepth 10000
set_option linter.unusedVariables false

namespace M
theorem sub_not' {f d : T9.Fo} {a : Int × Int} (hn : f.pre.Nodup) (h : f.sub a = some d) : a ∉ d.pre := by
  induction f using T9.Fo.ind with
  | nil => cases h
  | node bb oo x e r ihe ihr =>
    obtain ⟨h1, h2, h3, h4, h5⟩ := T9.Fo.nodup_node.1 hn
    simp only [T9.Fo.sub] at h
    split at h
    · rename_i hx; cases h; rw [← hx]; exact h1
    · cases he : e.sub a with
      | some e' => rw [he] at h; simp at h; subst h; exact ihe h3 he
      | none => rw [he] at h; simp at h; exact ihr h4 h
theorem kin_self {f : T9.Fo} (hn : f.pre.Nodup) (x : Int × Int) : x ∉ f.kin x := by
  unfold T9.Fo.kin
  cases h : f.sub x with
  | none => simp
  | some d => exact sub_not' hn h
/-- The slot that a step takes out. -/
def nxt : Nat → St → Int × Int → List (Int × Int) → Int × Int
  | 0, _, a, _ => a
  | n + 1, S, a, L => match ahd S a (L ++ [a]) with
    | none => a
    | some b => nxt n S b (L ++ [a])
theorem nxt_none {n : Nat} {S : St} {a : Int × Int} {L : List (Int × Int)} (h : ahd S a (L ++ [a]) = none) : nxt (n + 1) S a L = a := by
  show (match ahd S a (L ++ [a]) with | none => a | some b => nxt n S b (L ++ [a])) = a
  rw [h]
theorem nxt_some {n : Nat} {S : St} {a b : Int × Int} {L : List (Int × Int)} (h : ahd S a (L ++ [a]) = some b) : nxt (n + 1) S a L = nxt n S b (L ++ [a]) := by
  show (match ahd S a (L ++ [a]) with | none => a | some b => nxt n S b (L ++ [a])) = _
  rw [h]
theorem nxt_in : ∀ (n : Nat) (x : X) (a : Int × Int) (L : List (Int × Int)), Ok x → (gc x.S a).k ≠ 0 → a ∉ L → (gc x.S (nxt n x.S a L)).k ≠ 0 ∧ nxt n x.S a L ∉ L
  | 0, x, a, L, h, ha, hL => ⟨ha, hL⟩
  | n + 1, x, a, L, h, ha, hL => by
    cases hb : ahd x.S a (L ++ [a]) with
    | none => rw [nxt_none hb]; exact ⟨ha, hL⟩
    | some b =>
      rw [nxt_some hb]
      obtain ⟨_, _, b1, b2, _⟩ := ahd_some h.s hb
      have := nxt_in n x b (L ++ [a]) h b1 b2
      exact ⟨this.1, fun e => this.2 (by simp [e])⟩
theorem nxt_out {n : Nat} {x : X} {a : Int × Int} {b : Int × Int} {L : List (Int × Int)} (h : Ok x) (hb : ahd x.S a (L ++ [a]) = some b) : nxt n x.S b (L ++ [a]) ≠ a := by
  obtain ⟨_, _, b1, b2, _⟩ := ahd_some h.s hb
  have := (nxt_in n x b (L ++ [a]) h b1 b2).2
  rintro e
  exact this (by rw [e]; simp)
/-- With no step left nothing is done. -/
theorem away0 : ∀ (n : Nat) (x : X) (a : Int × Int) (L : List (Int × Int)), Ok x → (gc x.S a).k ≠ 0 → a ∉ L → free x.f L ≤ n → x.l = 0 → away n x a L = (true, x)
  | 0, x, a, L, h, ha, hL, hn, hl => by have := free_pos h.t.nd (h.mem.2 ha) hL; omega
  | n + 1, x, a, L, h, ha, hL, hn, hl => by
    cases hb : ahd x.S a (L ++ [a]) with
    | none => rw [away_none hb]; unfold stp; rw [if_pos hl]
    | some b =>
      obtain ⟨_, _, b1, b2, _⟩ := ahd_some h.s hb
      have hf := free_less h.t.nd (h.mem.2 ha) hL
      rw [away_some hb, away0 n x b (L ++ [a]) h b1 b2 (by omega) hl]
/-- With one step left that one is done. -/
theorem away1 : ∀ (n : Nat) (x : X) (a : Int × Int) (L : List (Int × Int)), Ok x → (gc x.S a).k ≠ 0 → a ∉ L → free x.f L ≤ n → x.l = 1 →
    (nxt n x.S a L = a → away n x a L = (false, one x a)) ∧ (nxt n x.S a L ≠ a → away n x a L = (true, one x (nxt n x.S a L)))
  | 0, x, a, L, h, ha, hL, hn, hl => by have := free_pos h.t.nd (h.mem.2 ha) hL; omega
  | n + 1, x, a, L, h, ha, hL, hn, hl => by
    cases hb : ahd x.S a (L ++ [a]) with
    | none =>
      rw [nxt_none hb, away_none hb]
      unfold stp
      rw [if_neg (by omega)]
      exact ⟨fun _ => rfl, fun e => absurd rfl e⟩
    | some b =>
      obtain ⟨_, _, b1, b2, _⟩ := ahd_some h.s hb
      have hf := free_less h.t.nd (h.mem.2 ha) hL
      have ne := nxt_out (n := n) h hb
      have ih := away1 n x b (L ++ [a]) h b1 b2 (by omega) hl
      rw [nxt_some hb, away_some hb]
      refine ⟨fun e => absurd e ne, fun _ => ?_⟩
      by_cases e : nxt n x.S b (L ++ [a]) = b
      · rw [ih.1 e, e]
        have g := away_ok n x b (L ++ [a]) h b1 b2 (by omega)
        rw [ih.1 e] at g
        obtain ⟨k1, k2, k3⟩ := g.next h b1 b2
        exact away0 n (one x b) a L k1 (by rw [k2]; exact ha) hL (by omega) (by show x.l - 1 = 0; omega)
      · rw [ih.2 e]
/-- A step, and all that is left. -/
theorem away_step (n : Nat) (x : X) (a : Int × Int) (h : Ok x) (ha : (gc x.S a).k ≠ 0) (hn : x.f.len ≤ n) (hl : x.l ≠ 0) :
    (nxt n x.S a [] = a → away n x a [] = (false, one x a)) ∧ (nxt n x.S a [] ≠ a → away n x a [] = away n (one x (nxt n x.S a [])) a []) := by
  obtain ⟨j, hj⟩ : ∃ j, x.l = 1 + j := ⟨x.l - 1, by omega⟩
  have hx : x = pl ⟨x.S, x.f, 1, x.T⟩ j := by
    show x = ⟨x.S, x.f, 1 + j, x.T⟩
    rw [← hj]
  have h1 : Ok (⟨x.S, x.f, 1, x.T⟩ : X) := ⟨h.i, h.s, h.t⟩
  have hf : free x.f [] ≤ n := by rw [free_nil]; exact hn
  have A := away1 n ⟨x.S, x.f, 1, x.T⟩ a [] h1 ha (by simp) hf rfl
  have B := away_more n ⟨x.S, x.f, 1, x.T⟩ a [] j h1 ha (by simp) hf
  rw [← hx] at B
  have p : ∀ s, pl (one ⟨x.S, x.f, 1, x.T⟩ s) j = one x s := by
    intro s
    show (⟨fall x.S s, takF x.S x.f s, 1 - 1 + j, if fin x.S s then x.T ++ [gc x.S s] else x.T⟩ : X) = ⟨fall x.S s, takF x.S x.f s, x.l - 1, if fin x.S s then x.T ++ [gc x.S s] else x.T⟩
    rw [show 1 - 1 + j = x.l - 1 by omega]
  refine ⟨fun e => ?_, fun e => ?_⟩
  · rw [B.1 _ (A.1 e), p]
  · rw [B.2 _ (A.2 e), p]

/-- The document's Delete: so many steps; whether it is not done. -/
def dd : Nat → Nat → X → Int × Int → Bool × X
  | _, 0, x, _ => (true, x)
  | n, i + 1, x, a => if nxt n x.S a [] = a then (false, one x a) else dd n i (one x (nxt n x.S a [])) a
theorem gc_one {x : X} (h : Ok x) {a s : Int × Int} (hs : (gc x.S s).k ≠ 0) : gc (one x s).S a = if a = s then C.zero else gc x.S a := gc_fall h.s s a (srcE_yes hs)
theorem dd_away (n : Nat) (a : Int × Int) : ∀ (i : Nat) (x : X), Ok x → (gc x.S a).k ≠ 0 → x.f.len ≤ n → x.l = i → dd n i x a = away n x a []
  | 0, x, h, ha, hn, hl => (away0 n x a [] h ha (by simp) (by rw [free_nil]; exact hn) hl).symm
  | i + 1, x, h, ha, hn, hl => by
    have S := away_step n x a h ha hn (by omega)
    show (if nxt n x.S a [] = a then (false, one x a) else dd n i (one x (nxt n x.S a [])) a) = _
    by_cases e : nxt n x.S a [] = a
    · rw [if_pos e, S.1 e]
    · rw [if_neg e, S.2 e]
      have hs := (nxt_in n x a [] h ha (by simp)).1
      have hlen := len_one h hs
      exact dd_away n a i _ (h.one hs) (by rw [gc_one h hs, if_neg (fun k => e k.symm)]; exact ha) (by omega) (by show x.l - 1 = i; omega)

/-- What is left of a Revoke that is taking b away. -/
def rest (n : Nat) (a : Int × Int) (r : Bool × X) : Bool × X := match r with
  | (true, y) => (true, y)
  | (false, y) => rvk n y a
/-- The document's Revoke: a goal, so many steps. -/
def rd (n : Nat) (a : Int × Int) : Nat → X → Option (Int × Int) → Bool × X
  | 0, x, some b => if (gc x.S b).k = 0 then (match (x.f.kin a).getLast? with | none => (false, x) | some _ => (true, x)) else (true, x)
  | 0, x, none => match (x.f.kin a).getLast? with | none => (false, x) | some _ => (true, x)
  | i + 1, x, some b => if (gc x.S b).k = 0 then (match (x.f.kin a).getLast? with | none => (false, x) | some c => rd n a i (one x (nxt n x.S c [])) (some c)) else rd n a i (one x (nxt n x.S b [])) (some b)
  | i + 1, x, none => match (x.f.kin a).getLast? with | none => (false, x) | some c => rd n a i (one x (nxt n x.S c [])) (some c)
theorem kin_full2 {x : X} (h : Ok x) {a b : Int × Int} (hb : b ∈ x.f.kin a) : (gc x.S b).k ≠ 0 := (h.i.inv b).1 (kin_pre hb)
theorem rd_rvk (n : Nat) (a : Int × Int) : ∀ (i : Nat) (x : X) (k : Nat), Ok x → x.f.len ≤ n → x.l = i → x.f.len < k →
    rd n a i x none = rvk k x a ∧ ∀ b, b ≠ a → rd n a i x (some b) = if (gc x.S b).k = 0 then rvk k x a else rest k a (away n x b [])
  | i, x, 0, h, hn, hl, hk => by omega
  | 0, x, k + 1, h, hn, hl, hk => by
    have N : (match (x.f.kin a).getLast? with | none => (false, x) | some _ => (true, x)) = rvk (k + 1) x a := by
      cases e : (x.f.kin a).getLast? with
      | none => rw [rvk_none e]
      | some b =>
        have hb := kin_full2 h (List.mem_of_getLast? e)
        rw [rvk_some e, away0 _ x b [] h hb (by simp) (by rw [free_nil]; exact Nat.le_refl _) hl]
    refine ⟨N, fun b hb => ?_⟩
    show (if (gc x.S b).k = 0 then (match (x.f.kin a).getLast? with | none => (false, x) | some _ => (true, x)) else (true, x)) = _
    by_cases e : (gc x.S b).k = 0
    · rw [if_pos e, if_pos e, N]
    · rw [if_neg e, if_neg e, away0 n x b [] h e (by simp) (by rw [free_nil]; exact hn) hl]; rfl
  | i + 1, x, k + 1, h, hn, hl, hk => by
    have G : ∀ b, b ≠ a → (gc x.S b).k ≠ 0 → rd n a i (one x (nxt n x.S b [])) (some b) = rest (k + 1) a (away n x b []) := by
      intro b hba hb
      have hs := (nxt_in n x b [] h hb (by simp)).1
      have hlen := len_one h hs
      have ih := rd_rvk n a i (one x (nxt n x.S b [])) k (h.one hs) (by omega) (by show x.l - 1 = i; omega) (by omega)
      have ih' := rd_rvk n a i (one x (nxt n x.S b [])) (k + 1) (h.one hs) (by omega) (by show x.l - 1 = i; omega) (by omega)
      have S := away_step n x b h hb hn (by omega)
      by_cases e : nxt n x.S b [] = b
      · have z : (gc (one x (nxt n x.S b [])).S b).k = 0 := by rw [gc_one h hs, if_pos e.symm]
        rw [ih'.2 b hba, if_pos z, S.1 e, e]; rfl
      · have z : (gc (one x (nxt n x.S b [])).S b).k ≠ 0 := by rw [gc_one h hs, if_neg (fun z => e z.symm)]; exact hb
        rw [ih'.2 b hba, if_neg z, S.2 e]
    have N : (match (x.f.kin a).getLast? with | none => (false, x) | some c => rd n a i (one x (nxt n x.S c [])) (some c)) = rvk (k + 1) x a := by
      cases e : (x.f.kin a).getLast? with
      | none => rw [rvk_none e]
      | some c =>
        have hm := List.mem_of_getLast? e
        have hc := kin_full2 h hm
        have hca : c ≠ a := fun z => kin_self h.t.nd a (z ▸ hm)
        have hs := (nxt_in n x c [] h hc (by simp)).1
        rw [rvk_some e]
        show rd n a i (one x (nxt n x.S c [])) (some c) = _
        have S := away_step n x c h hc hn (by omega)
        have hlen := len_one h hs
        have ih := rd_rvk n a i (one x (nxt n x.S c [])) k (h.one hs) (by omega) (by show x.l - 1 = i; omega) (by omega)
        rw [away_fuel x.f.len n x c [] h hc (by simp) (by rw [free_nil]; exact Nat.le_refl _) (by rw [free_nil]; exact hn)]
        by_cases e : nxt n x.S c [] = c
        · have z : (gc (one x (nxt n x.S c [])).S c).k = 0 := by rw [gc_one h hs, if_pos e.symm]
          rw [ih.2 c hca, if_pos z, S.1 e, e]
        · have z : (gc (one x (nxt n x.S c [])).S c).k ≠ 0 := by rw [gc_one h hs, if_neg (fun z => e z.symm)]; exact hc
          rw [ih.2 c hca, if_neg z, S.2 e]
          generalize away n (one x (nxt n x.S c [])) c [] = r
          obtain ⟨q, y⟩ := r
          cases q <;> rfl
    refine ⟨N, fun b hb => ?_⟩
    show (if (gc x.S b).k = 0 then (match (x.f.kin a).getLast? with | none => (false, x) | some c => rd n a i (one x (nxt n x.S c [])) (some c)) else rd n a i (one x (nxt n x.S b [])) (some b)) = _
    by_cases e : (gc x.S b).k = 0
    · rw [if_pos e, if_pos e, N]
    · rw [if_neg e, if_neg e, G b hb e]
end M
end Go.Proofs.YtdnoidnpiaadaaaGreat
