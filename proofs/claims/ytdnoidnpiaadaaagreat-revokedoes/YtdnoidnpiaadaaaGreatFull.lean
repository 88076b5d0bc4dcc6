/-
  THE CONTRACTS of package slots: Full, Count.
-/
import Derived.Test.YtdnoidnpiaadaaaGreatG4
import Derived.Deep.LoopGhost
namespace Go.Proofs.YtdnoidnpiaadaaaGreat
set_option maxRecDepth 10000
open Go.RowKit
set_option linter.unusedVariables false

namespace M
/-- The slots of a node, below j, that are not empty. -/
def rowTo (id : Int) (d : Nd) (j : Nat) : List (Int × Int) := ((List.range j).filter fun i : Nat => (d.f i).k != 0).map fun i : Nat => (id, (i : Int))
/-- The slots of the nodes below m that are not empty. -/
def fullTo (S : St) (m : Nat) : List (Int × Int) := (List.range m).flatMap fun id : Nat => match S id with | none => [] | some d => rowTo (id : Int) d 16
def full (S : St) : List (Int × Int) := fullTo S 64

theorem rowTo_zero (id : Int) (d : Nd) : rowTo id d 0 = [] := rfl
theorem rowTo_succ (id : Int) (d : Nd) (j : Nat) : rowTo id d (j + 1) = rowTo id d j ++ (if (d.f j).k != 0 then [(id, (j : Int))] else []) := by
  unfold rowTo
  rw [List.range_succ, List.filter_append, List.map_append]
  congr 1
  simp only [List.filter_cons, List.filter_nil]
  split <;> rfl
theorem rowTo_len (id : Int) (d : Nd) (j : Nat) : (rowTo id d j).length ≤ j := by
  unfold rowTo
  rw [List.length_map]
  exact Nat.le_trans (List.length_filter_le _ _) (by simp)
theorem fullTo_none {S : St} {m : Nat} (h : S m = none) : fullTo S (m + 1) = fullTo S m := by
  unfold fullTo
  rw [List.range_succ, List.flatMap_append]
  simp [h]
theorem fullTo_some {S : St} {m : Nat} {d : Nd} (h : S m = some d) : fullTo S (m + 1) = fullTo S m ++ rowTo m d 16 := by
  unfold fullTo
  rw [List.range_succ, List.flatMap_append]
  simp [h]
theorem fullTo_len (S : St) (m : Nat) : (fullTo S m).length ≤ 16 * m := by
  induction m with
  | zero => simp [fullTo]
  | succ m ih =>
    cases h : S m with
    | none => rw [fullTo_none h]; omega
    | some d => rw [fullTo_some h, List.length_append]; have := rowTo_len m d 16; omega
end M

theorem wpList_row_index {w : World} {ops : Array Oper} {rest : List Oper} {o : Oper} {a : Act} {Q : Exit → Act → World → Prop} (hg : o.guard = none) (x y : Operand) (ho : o.op = .index 94 x y)
    (A : Array Value) (i : Nat) (v : Value) (hx : a.eval x = .agg A) (hy : a.eval y = .int .i64 i) (hr : (Instr.index 94 (.agg A) (.int .i64 i)).run Tryz.prog w = .ok v w)
    (h : wpList Tryz.prog ops Q rest (a.put o.dst v) w) : wpList Tryz.prog ops Q (o :: rest) a w :=
  wpList_plain hg fun K' hK' => by
    unfold Oper.wp execOp
    simp only [ho, hx, hy, Sem.run_bind, hr, Result.andThen_ok, Sem.run_pure]
    exact hK' _ _ h
theorem index_row (w : World) (d : Nd) (i : Nat) (hi : i < 16) : (Instr.index 94 (.agg (rowCells d)) (.int .i64 i)).run Tryz.prog w = .ok (cv (d.f i)) w := by
  have h := part_row w d i hi
  have hc : (sizeOf 25).run Tryz.prog w = .ok 6 w := by kernel_rfl
  have hb : (0 : Int) ≤ (i : Int) ∧ (i : Int) < ((16 : Nat) : Int) := by omega
  unfold Instr.index
  simp only [Sem.run_bind, asIntOf, Sem.run_pure, run_underlying Tryz.underlying94, Result.andThen_ok, Sem.run_ite, if_pos hb, hc, Int.toNat_natCast, h]

/-- One slot's name, laid as a list. -/
theorem rowOne (w : World) (n i : Int) : Row (w.alloc (.cells #[.int .i64 n, .int .i64 i] 31)) ⟨w.heap.size, 0, none⟩ [(n, i)] := by
  intro j p hp
  cases j with
  | zero =>
    simp at hp; subst hp
    exact ⟨by simp [Addr.add], by simp [Addr.add]⟩
  | succ j => simp at hp

set_option maxRecDepth 10000 in
set_option maxHeartbeats 1000000 in
theorem full_sa {w : World} {p b m : Nat} {K : Int → Option Nat} {S : St} (h : SA w p b m K S) :
    Calls Tryz.prog 50 #[.pointer (some ⟨p, 0, none⟩)] w fun e w' => ∃ v, e = .returned v ∧ Lst w' w.heap.size v (M.full S) ∧ w.grownBy w' none := by
  go_enter Tryz.func50, Tryz.ntmps50
  go_wp2
  go_loopg [3, 8] 64 (fun g full c wr => ∃ j : Nat, j + g = 64 ∧ c = .int .i64 j ∧ Hid (Lst wr w.heap.size full (M.fullTo S j)) ∧ w.grownBy wr none)
  case atStart => exact ⟨0, by omega, rfl, hideIt (Lst.nil _ _), gbRefl _ _⟩
  case round =>
    obtain ⟨j, hj, rfl, HL, gw⟩ := hrel
    by_cases hlt : j < 64
    · have hlt' : (j : Int) < 64 := by omega
      have hr := h.kept gw
      have hc := hr.cell
      have hl := hr.map.look j (i64_of (by omega) (by omega))
      cases hk : K j with
      | none =>
        rw [hk] at hl
        have hs := hideIt (h.gone j hk)
        go_wp2
        go_roundg (gk - 1)
        case rel => exact ⟨j + 1, by omega, by go_num, hideIt (by rw [M.fullTo_none hs.out]; exact HL.out), gw⟩
        case measure => omega
      | some q =>
        rw [hk] at hl
        obtain ⟨d, hs0, N⟩ := hr.node j q hk
        have hs := hideIt hs0
        have h1 := N.load
        have hix := fun w => index_row w d
        have HD : Hid (∀ i, d.f i = d.f i) := hideIt (fun _ => rfl)
        clear N hs0
        obtain ⟨A, hA⟩ : ∃ A, rowCells d = A := ⟨_, rfl⟩
        rw [hA] at h1 hix
        have HX := hideIt hix
        clear hA hix
        go_wp2_with (refine wpList_row_load rfl _ rfl q A rfl h1 ?_)
        obtain ⟨wo, rfl⟩ : ∃ wo, wo = wr := ⟨_, rfl⟩
        obtain ⟨Gk, rfl⟩ : ∃ Gk, Gk = gk := ⟨_, rfl⟩
        clear h1 hl hc
        go_loopg [3, 23] 16 (fun g full i wx => ∃ c : Nat, c + g = 16 ∧ i = .int .i64 c ∧ Hid (Lst wx w.heap.size full (M.fullTo S j ++ M.rowTo j d c)) ∧ w.grownBy wx none)
        case atStart => exact ⟨0, by omega, rfl, hideIt (by rw [M.rowTo_zero, List.append_nil]; exact HL.out), gw⟩
        case round =>
          obtain ⟨c, hc, rfl, HL2, gx⟩ := hrel
          by_cases hlc : c < 16
          · have hlc' : (c : Int) < 16 := by omega
            have hi := HX.out wr c hlc
            obtain ⟨⟨k0, o0, r0, b0, g0, n0⟩, hdc⟩ : ∃ x, d.f c = x := ⟨_, rfl⟩
            rw [hdc] at hi
            have hdk := hideIt hdc
            have hown := HL2.out.lt
            have hln : Hid ((M.fullTo S j ++ M.rowTo j d c).length ≤ 1100) := hideIt (by
              rw [List.length_append]; have := M.fullTo_len S j; have := M.rowTo_len j d c; omega)
            clear hdc
            go_upto_region 10 with (refine wpList_row_index rfl _ _ rfl A c _ rfl rfl hi ?_)
            obtain ⟨W, hW, X, g1⟩ := boxNew wr ⟨k0, o0, r0, b0, g0, n0⟩
            simp only at hW
            rw [hW]
            clear hW hi
            obtain ⟨y0, y1, y2, y3, y4, y5, _, _⟩ := id X
            cases hz : (k0 == 0)
            · go_wp2_with fail
              refine (empty_is k0 o0 r0 b0 g0 n0 false hz _).mono ?_
              rintro _ w2 ⟨rfl, g2⟩
              have G2 := gbTrans gx (gbTrans g1 g2)
              have HO : Hid (Lst (w2.alloc (.cells #[.int .i64 j, .int .i64 c] 31)) w.heap.size u3 (M.fullTo S j ++ M.rowTo j d c)) := hideIt ((HL2.out.kept (gbTrans g1 g2)).kept (gbAlloc _ _ _))
              have HR : Hid (Row (w2.alloc (.cells #[.int .i64 j, .int .i64 c] 31)) ⟨w2.heap.size, 0, none⟩ [((j : Int), (c : Int))]) := hideIt (rowOne w2 j c)
              have hsz : w.heap.size ≤ w2.heap.size := G2.size
              clear y0 y1 y2 y3 y4 y5
              go_wp2_with (at_builtin; refine wpList_append_slot rfl (.tmp 30) (.tmp 34) rfl w.heap.size _ _ rfl HO.out ⟨w2.heap.size, 0, none⟩ 1 1 [((j : Int), (c : Int))] rfl rfl HR.out (by have := hln.out; omega) (by simp; omega) ?_; intro v3 w3 ho3 hg3; have ho3 : Hid (Lst w3 w.heap.size v3 ((M.fullTo S j ++ M.rowTo j d c) ++ [((j : Int), (c : Int))])) := ho3)
              have G3 : w.grownBy w3 none := gbNews (gbTrans (gbAny (gbTrans G2 (gbAlloc _ _ _)) _) hg3) (fun k e => (hown k e).1)
              go_roundg (gk - 1)
              case rel => exact ⟨c + 1, by omega, by go_num, hideIt (by
                rw [M.rowTo_succ, hdk.out, if_pos (by simpa using hz), ← List.append_assoc]; exact ho3.out), G3⟩
              case measure => omega
            · go_wp2_with fail
              refine (empty_is k0 o0 r0 b0 g0 n0 true hz _).mono ?_
              rintro _ w2 ⟨rfl, g2⟩
              have G2 := gbTrans gx (gbTrans g1 g2)
              clear y0 y1 y2 y3 y4 y5
              go_wp2
              go_roundg (gk - 1)
              case rel => exact ⟨c + 1, by omega, by go_num, hideIt (by
                rw [M.rowTo_succ, hdk.out, if_neg (by simpa using hz), List.append_nil]; exact HL2.out.kept (gbTrans g1 g2)), G2⟩
              case measure => omega
          · have hlc' : ¬ (c : Int) < 16 := by omega
            obtain rfl : c = 16 := by omega
            go_wp2
            go_roundg (Gk - 1)
            case rel => exact ⟨j + 1, by omega, by go_num, hideIt (by rw [M.fullTo_some hs.out]; exact HL2.out), gx⟩
            case measure => omega
    · have hlt' : ¬ (j : Int) < 64 := by omega
      obtain rfl : j = 64 := by omega
      go_wp2
      go_ret
      exact ⟨_, rfl, HL.out, gw⟩

theorem full_is {w : World} {p m : Nat} {O : Nat → Prop} {S : St} (h : SAt w p m O S) :
    Calls Tryz.prog 50 #[.pointer (some ⟨p, 0, none⟩)] w fun e w' => ∃ v, e = .returned v ∧ Lst w' w.heap.size v (M.full S) ∧ w.grownBy w' none := by
  obtain ⟨b, K, h, _⟩ := h
  exact full_sa h

namespace M
theorem rowTo_mem {id : Int} {d : Nd} {j : Nat} {p : Int × Int} (h : p ∈ rowTo id d j) : ∃ i : Nat, i < j ∧ (d.f i).k ≠ 0 ∧ p = (id, (i : Int)) := by
  unfold rowTo at h
  simp only [List.mem_map, List.mem_filter, List.mem_range] at h
  obtain ⟨i, ⟨h1, h2⟩, h3⟩ := h
  exact ⟨i, h1, by simpa using h2, h3.symm⟩
theorem full_mem {S : St} {m : Nat} {p : Int × Int} (h : p ∈ fullTo S m) : ∃ (id : Nat) (d : Nd) (i : Nat), id < m ∧ S id = some d ∧ i < 16 ∧ (d.f i).k ≠ 0 ∧ p = ((id : Int), (i : Int)) := by
  unfold fullTo at h
  simp only [List.mem_flatMap, List.mem_range] at h
  obtain ⟨id, h1, h2⟩ := h
  cases hs : S id with
  | none => rw [hs] at h2; cases h2
  | some d =>
    rw [hs] at h2
    obtain ⟨i, h3, h4, h5⟩ := rowTo_mem h2
    exact ⟨id, d, i, h1, hs, h3, h4, h5⟩
/-- What is not empty is a slot that is there. -/
theorem full_there {S : St} (G : Good S) {p : Int × Int} (h : p ∈ full S) : ∃ (d : Nd) (i : Nat), I64 p.1 ∧ S p.1 = some d ∧ p.2 = (i : Int) ∧ i < 2 ^ d.r := by
  obtain ⟨id, d, i, h1, h2, h3, h4, rfl⟩ := full_mem h
  refine ⟨d, i, i64_of (by omega) (by omega), h2, rfl, Nat.lt_of_not_le fun hle => h4 ?_⟩
  rw [G.out _ d i h2 hle]
/-- Whether what lies in a slot is of that kind and object. -/
def hit (S : St) (k o : Int) (p : Int × Int) : Bool := (getC S p.1 p.2).k == k && (getC S p.1 p.2).o == o
def cntL (S : St) (k o : Int) (l : List (Int × Int)) : Nat := (l.filter (hit S k o)).length
def cnt (S : St) (k o : Int) : Nat := cntL S k o (full S)
theorem cntL_app (S : St) (k o : Int) (a b : List (Int × Int)) : cntL S k o (a ++ b) = cntL S k o a + cntL S k o b := by unfold cntL; simp
theorem cntL_one (S : St) (k o : Int) (p : Int × Int) : cntL S k o [p] = if hit S k o p then 1 else 0 := by
  unfold cntL
  simp only [List.filter_cons, List.filter_nil]
  split <;> rfl
theorem cntL_le (S : St) (k o : Int) (a : List (Int × Int)) : cntL S k o a ≤ a.length := List.length_filter_le _ _
theorem take_succ' {l : List (Int × Int)} {c : Nat} {p : Int × Int} (h : l[c]? = some p) : l.take (c + 1) = l.take c ++ [p] := by
  rw [List.take_add_one, h]; rfl
end M

set_option maxRecDepth 10000 in
set_option maxHeartbeats 1000000 in
theorem count_sa {w : World} {p b m : Nat} {K : Int → Option Nat} {S : St} (h : SA w p b m K S) (G : Good S) (k o : Int) :
    Calls Tryz.prog 11 #[.pointer (some ⟨p, 0, none⟩), .int .i64 k, .int .i64 o] w fun e w' => e = .returned (.int .i64 (M.cnt S k o)) ∧ w.grownBy w' none := by
  have HH := hideIt h
  have HG := hideIt G
  clear h G
  go_enter Tryz.func11, Tryz.ntmps11
  go_wp2_with fail
  refine (full_sa HH.out).mono ?_
  rintro _ w2 ⟨v, rfl, hL, hg1⟩
  have hlen : (M.full S).length ≤ 1024 := M.fullTo_len S 64
  obtain ⟨L, hE⟩ : ∃ L, L = M.full S := ⟨_, rfl⟩
  rw [← hE] at hL hlen
  have HE := hideIt hE
  clear hE
  rcases hL.form with ⟨rfl, hnil⟩ | ⟨g, cap, rfl, _, _, _, _, hrow⟩
  · have HR : Hid (M.cnt S k o = 0) := hideIt (by unfold M.cnt; rw [← HE.out, hnil]; rfl)
    clear hL hnil
    go_wp2
    refine wp_loop_rounds 1 ?_
    rw [rounds_succ]
    go_wp2
    go_ret
    exact ⟨ret_int (by rw [HR.out]; rfl), hg1⟩
  obtain ⟨len, hl0⟩ : ∃ len, L.length = len := ⟨_, rfl⟩
  rw [hl0] at hlen ⊢
  have hl := hideIt hl0
  have hR := hideIt hrow
  clear hL hl0 hrow
  go_wp2
  go_loopg [7, 14] len (fun y cnt i wr => ∃ c t : Nat, c + y = len ∧ i = .int .i64 c ∧ cnt = .int .i64 t ∧ Hid (t = M.cntL S k o (L.take c)) ∧ w2.grownBy wr none)
  case atStart => exact ⟨0, 0, by omega, rfl, rfl, hideIt (by simp [M.cntL]), gbRefl _ _⟩
  case round =>
    obtain ⟨c, t, hc, rfl, rfl, HT, gw⟩ := hrel
    by_cases hlt : c < len
    · have hlt' : (c : Int) < (len : Int) := by omega
      obtain ⟨⟨n, i⟩, hp⟩ : ∃ q, L[c]? = some q := ⟨_, List.getElem?_eq_getElem (by rw [hl.out]; exact hlt)⟩
      have hmem : (n, i) ∈ M.full S := by rw [← HE.out]; exact List.mem_of_getElem? hp
      obtain ⟨d, j, hn, hs, hij, hj⟩ := M.full_there HG.out hmem
      simp only at hn hs hij
      subst hij
      have E := (hR.out.kept gw) c _ hp
      have ad : (⟨g, 0, none⟩ : Addr).add (c * 2) = ⟨g, c * 2, none⟩ := by rw [Addr.add_lit, Nat.zero_add]
      rw [ad] at E
      obtain ⟨e0, e1⟩ := E
      simp only at e0 e1
      have ht : t ≤ 1024 := by
        rw [HT.out]; exact Nat.le_trans (M.cntL_le _ _ _ _) (by rw [List.length_take]; omega)
      have hr := HH.out.kept (gbTrans hg1 gw)
      obtain ⟨q, hk, N⟩ := hr.has hs
      have h16 := (M.radW d.r (HG.out.rad n d hs).1 (HG.out.rad n d hs).2).2.1
      have HFi := find_g hr HG.out hn hs hk hj
      have Z := N.six j (by omega)
      have HS : Hid (M.getC S n j = d.f j) := hideIt (M.getC_at hs hj)
      have HP := hideIt hp
      obtain ⟨a, ha⟩ : ∃ a, 1 + j * 6 = a := ⟨_, rfl⟩
      rw [ha] at HFi Z
      clear ha hp hmem hs hr hk N ad hn
      obtain ⟨⟨k0, o0, r0, b0, g0, n0⟩, hdc⟩ : ∃ x, d.f j = x := ⟨_, rfl⟩
      rw [hdc] at Z HS
      clear hdc
      go_upto_region 5 with fail
      obtain ⟨W, hW, X, g1⟩ := sboxNew wr n j
      rw [hW]
      clear hW e0 e1
      have x0 := X.at0
      have x1 := X.at1
      go_wp2_with fail
      refine (HFi _ g1).mono ?_
      rintro _ w3 ⟨rfl, g3⟩
      obtain ⟨z0, z1, z2, z3, z4, z5, _⟩ := Z.kept (gbTrans g1 g3)
      simp only at z0 z1 z2 z3 z4 z5
      clear x0 x1 z2 z3 z4 z5
      have G3 := gbTrans gw (gbTrans g1 g3)
      have step : ∀ v : Bool, (k0 == k && o0 == o) = v → M.cntL S k o (L.take (c + 1)) = t + (if v then 1 else 0) := by
        intro v hv
        rw [M.take_succ' HP.out, M.cntL_app, ← HT.out, M.cntL_one]
        have : M.hit S k o (n, (j : Int)) = v := by unfold M.hit; rw [HS.out]; exact hv
        rw [this]
      have ST := hideIt step
      clear step
      cases hv1 : (k0 == k)
      · go_wp2
        go_roundg (gk - 1)
        case rel => exact ⟨c + 1, t, by omega, by go_num, rfl, hideIt (by rw [ST.out false (by rw [hv1]; rfl)]; rfl), G3⟩
        case measure => omega
      · cases hv2 : (o0 == o)
        · go_wp2
          go_roundg (gk - 1)
          case rel => exact ⟨c + 1, t, by omega, by go_num, rfl, hideIt (by rw [ST.out false (by rw [hv1, hv2]; rfl)]; rfl), G3⟩
          case measure => omega
        · go_wp2
          go_roundg (gk - 1)
          case rel => exact ⟨c + 1, t + 1, by omega, by go_num, by go_num, hideIt (by rw [ST.out true (by rw [hv1, hv2]; rfl)]; rfl), G3⟩
          case measure => omega
    · have hlt' : ¬ (c : Int) < (len : Int) := by omega
      obtain rfl : c = len := by omega
      have HR : Hid (M.cnt S k o = t) := hideIt (by
        rw [HT.out, List.take_of_length_le (by rw [hl.out]; exact Nat.le_refl _), HE.out]; rfl)
      go_wp2
      go_ret
      exact ⟨ret_int (by rw [HR.out]), gbTrans hg1 gw⟩

theorem count_is {w : World} {p m : Nat} {O : Nat → Prop} {S : St} (h : SAt w p m O S) (G : Good S) (k o v : Int) (hv : (M.cnt S k o : Int) = v) :
    Calls Tryz.prog 11 #[.pointer (some ⟨p, 0, none⟩), .int .i64 k, .int .i64 o] w fun e w' => e = .returned (.int .i64 v) ∧ w.grownBy w' none := by
  subst hv
  obtain ⟨b, K, h, _⟩ := h
  exact count_sa h G k o

end Go.Proofs.YtdnoidnpiaadaaaGreat
