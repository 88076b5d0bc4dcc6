/-
  THE DOCUMENT'S SIDE (donjonref07): Full, Count, SameSlots.
-/
import Derived.Test.YtdnoidnpiaadaaaGreatG7
import Derived.Maps.AppendAt
import Derived.Deep.RegionHeld
import Derived.Deep.RegionHeld3
import Derived.KernelRfl
namespace Go.Proofs.YtdnoidnpiaadaaaGreat
open Go.RowKit
set_option linter.unusedVariables false
set_option maxRecDepth 10000
variable {u : Value}

namespace M
/-- The slots of a node of the list that are not empty. -/
def rowOf (S : St) (e : RE) : List (Int × Int) := match S e.id with | none => [] | some d => rowTo e.id d (2 ^ d.r)
def fullL (S : St) (l : List RE) (c : Nat) : List (Int × Int) := (l.take c).flatMap (rowOf S)
theorem fullL_succ {S : St} {l : List RE} {c : Nat} {e : RE} {d : Nd} (h : l[c]? = some e) (hd : S e.id = some d) : fullL S l (c + 1) = fullL S l c ++ rowTo e.id d (2 ^ d.r) := by
  unfold fullL
  rw [List.take_add_one, h, List.flatMap_append]
  simp [rowOf, hd]
theorem rowCut {S : St} (G : Good S) {id : Int} {d : Nd} (hd : S id = some d) : ∀ k, rowTo id d (2 ^ d.r + k) = rowTo id d (2 ^ d.r)
  | 0 => rfl
  | k + 1 => by
    rw [← Nat.add_assoc, rowTo_succ, G.out id d _ hd (Nat.le_add_right _ _), rowCut G hd k]
    simp
theorem row16 {S : St} (G : Good S) {id : Int} {d : Nd} (hd : S id = some d) : rowTo id d 16 = rowTo id d (2 ^ d.r) := by
  have h16 := (radW d.r (G.rad id d hd).1 (G.rad id d hd).2).2.1
  have := rowCut G hd (16 - 2 ^ d.r)
  rwa [show 2 ^ d.r + (16 - 2 ^ d.r) = 16 by omega] at this
theorem filter_snoc : ∀ (l : List RE), l.Pairwise (fun a b => a.id < b.id) → ∀ (e : RE) (m : Nat), e ∈ l → e.id = (m : Int) → l.filter (fun x => decide (x.id < ((m + 1 : Nat) : Int))) = l.filter (fun x => decide (x.id < (m : Int))) ++ [e]
  | [], _, e, m, he, _ => by cases he
  | x :: l, hs, e, m, he, hm => by
    obtain ⟨h1, h2⟩ := List.pairwise_cons.1 hs
    rcases List.mem_cons.1 he with rfl | he
    · have t1 : l.filter (fun x => decide (x.id < ((m + 1 : Nat) : Int))) = [] := List.filter_eq_nil_iff.2 (fun y hy => by have := h1 y hy; simp; omega)
      have t2 : l.filter (fun x => decide (x.id < (m : Int))) = [] := List.filter_eq_nil_iff.2 (fun y hy => by have := h1 y hy; simp; omega)
      rw [List.filter_cons, List.filter_cons, t1, t2, if_pos (by simp; omega), if_neg (by simp; omega)]
      rfl
    · have := h1 e he
      rw [List.filter_cons, List.filter_cons, if_pos (by simp; omega), if_pos (by simp; omega), filter_snoc l h2 e m he hm]
      rfl
theorem full_list {S : St} (G : Good S) {l : List RE} (hs : l.Pairwise (fun a b => a.id < b.id)) (hin : ∀ e ∈ l, ∃ d, S e.id = some d) (hout : ∀ id, (∀ e ∈ l, e.id ≠ id) → S id = none) : ∀ m, fullTo S m = (l.filter fun x => decide (x.id < (m : Int))).flatMap (rowOf S)
  | 0 => by
    have : l.filter (fun x => decide (x.id < ((0 : Nat) : Int))) = [] := List.filter_eq_nil_iff.2 (fun e he => by
      obtain ⟨d, hd⟩ := hin e he
      have := (G.lo _ _ hd).1
      simp; omega)
    rw [this]; rfl
  | m + 1 => by
    cases hm : S m with
    | none =>
      rw [fullTo_none hm, full_list G hs hin hout m]
      congr 1
      apply List.filter_congr
      intro e he
      have : e.id ≠ (m : Int) := fun e2 => by obtain ⟨d, hd⟩ := hin e he; rw [e2, hm] at hd; cases hd
      simp only [decide_eq_decide]
      omega
    | some d =>
      have : ∃ e ∈ l, e.id = (m : Int) := Classical.byContradiction fun hn => by
        have := hout m (fun e he e2 => hn ⟨e, he, e2⟩)
        rw [this] at hm; cases hm
      obtain ⟨e, he, hem⟩ := this
      rw [fullTo_some hm, full_list G hs hin hout m, filter_snoc l hs e m he hem, List.flatMap_append, row16 G hm]
      congr 1
      simp [rowOf, hem, hm]
theorem full_is_list {S : St} (G : Good S) {l : List RE} (hs : l.Pairwise (fun a b => a.id < b.id)) (hin : ∀ e ∈ l, ∃ d, S e.id = some d) (hout : ∀ id, (∀ e ∈ l, e.id ≠ id) → S id = none) : full S = fullL S l l.length := by
  show fullTo S 64 = _
  rw [full_list G hs hin hout 64]
  unfold fullL
  rw [List.take_of_length_le (Nat.le_refl _), List.filter_eq_self.2]
  intro e he
  obtain ⟨d, hd⟩ := hin e he
  have := (G.lo _ _ hd).2
  simp; omega
theorem fullL_len {S : St} (G : Good S) (l : List RE) (c : Nat) : (fullL S l c).length ≤ 16 * c := by
  induction c with
  | zero => simp [fullL]
  | succ c ih =>
    by_cases h : c < l.length
    · have hc : l[c]? = some l[c] := List.getElem?_eq_getElem h
      cases hd : S l[c].id with
      | none =>
        have hrow : rowOf S l[c] = [] := by unfold rowOf; rw [hd]
        have : fullL S l (c + 1) = fullL S l c := by
          unfold fullL
          rw [List.take_add_one, hc, List.flatMap_append]
          simp [hrow]
        rw [this]; omega
      | some d =>
        rw [fullL_succ hc hd, List.length_append]
        have := rowTo_len l[c].id d (2 ^ d.r)
        have h16 := (radW d.r (G.rad _ d hd).1 (G.rad _ d hd).2).2.1
        omega
    · unfold fullL at *
      rw [List.take_of_length_le (by omega)] at ih ⊢
      omega
end M

set_option maxRecDepth 10000 in
set_option maxHeartbeats 1000000 in
theorem rfull_some {w : World} {p g n cap : Nat} {l : List RE} {S : St} (H : Hid (RA u w p (.slice (some ⟨g, 0, none⟩) n cap) l S)) (HG : Hid (Good S)) (hn : Hid (l.length = n)) (hn64 : n ≤ 64) :
    Calls Tryz.prog 49 #[.pointer (some ⟨p, 0, none⟩)] w fun e w' => ∃ v, e = .returned v ∧ Lst w' w.heap.size v (M.fullL S l n) ∧ w.grownBy w' none := by
  go_enter Tryz.func49, Tryz.ntmps49
  go_wp2
  go_loopg [3, 4] n (fun y full i wr => ∃ c : Nat, c + y = n ∧ i = .int .i64 c ∧ Hid (Lst wr w.heap.size full (M.fullL S l c)) ∧ w.grownBy wr none)
  case atStart => exact ⟨0, by omega, rfl, hideIt (Lst.nil _ _), gbRefl _ _⟩
  case round =>
    obtain ⟨c, hcn, rfl, HL, gw⟩ := hrel
    have hc := (H.out.kept gw).cell
    by_cases hlt : c < n
    · have hlt' : (c : Int) < (n : Int) := by omega
      obtain ⟨e, he⟩ : ∃ e, l[c]? = some e := ⟨_, List.getElem?_eq_getElem (by rw [hn.out]; exact hlt)⟩
      obtain ⟨d, hd, hr, N⟩ := H.out.node e (List.mem_of_getElem? he)
      have HE := hideIt he
      have HD := hideIt hd
      have HN := hideIt N
      obtain ⟨q, hq⟩ : ∃ q, 2 ^ e.r = q := ⟨_, rfl⟩
      have HQ : Hid (2 ^ d.r = q) := hideIt (by rw [hr]; exact hq)
      have hq16 : q ≤ 16 := by have := (M.radW d.r (HG.out.rad _ d hd).1 (HG.out.rad _ d hd).2).2.1; have := HQ.out; omega
      obtain ⟨idn, hidn⟩ : ∃ idn, e.id = idn := ⟨_, rfl⟩
      obtain ⟨hh, hhh⟩ : ∃ hh, e.h = hh := ⟨_, rfl⟩
      have HI := hideIt hidn
      have HHH := hideIt hhh
      have CELLS : Hid (∀ wx : World, w.grownBy wx none → wx.cell? ⟨p, 0, none⟩ = some (.slice (some ⟨g, 0, none⟩) n cap) ∧ wx.cell? ⟨g, c * 3, none⟩ = some (.int .i64 idn) ∧ wx.cell? ⟨g, c * 3 + 2, none⟩ = some (.slice (some ⟨hh, 0, none⟩) q q)) := hideIt (fun wx gx => by
        have h1 := H.out.kept gx
        obtain ⟨e1, e2, e3⟩ := h1.ls.el he
        rw [hidn] at e1
        unfold rev at e3
        rw [hhh, hq] at e3
        exact ⟨h1.cell, e1, e3⟩)
      obtain ⟨_, _, c2⟩ := CELLS.out wr gw
      obtain ⟨wo, rfl⟩ : ∃ wo, wo = wr := ⟨_, rfl⟩
      obtain ⟨Gk, rfl⟩ : ∃ Gk, Gk = gk := ⟨_, rfl⟩
      clear he hd hr N hidn hhh hq
      go_wp2
      clear hc c2
      go_loopg [3, 5] q (fun y full i wx => ∃ a : Nat, a + y = q ∧ i = .int .i64 a ∧ Hid (Lst wx w.heap.size full (M.fullL S l c ++ M.rowTo idn d a)) ∧ w.grownBy wx none)
      case atStart => exact ⟨0, by omega, rfl, hideIt (by rw [M.rowTo_zero, List.append_nil]; exact HL.out), gw⟩
      case round =>
        obtain ⟨a, haq, rfl, HL2, gx⟩ := hrel
        obtain ⟨c0, c1, c2⟩ := CELLS.out wr gx
        by_cases hla : a < q
        · have hla' : (a : Int) < (q : Int) := by omega
          have Z := (HN.out.fr (O := fun _ => False) (Fr.grown gx) (fun e => e)).six a (by have := HQ.out; omega)
          rw [HHH.out] at Z
          obtain ⟨⟨k0, o0, r0, b0, g0, n0⟩, hdc⟩ : ∃ x, d.f a = x := ⟨_, rfl⟩
          rw [hdc] at Z
          have z0 := Z.at0
          simp only at z0
          have hdk := hideIt hdc
          have hown := HL2.out.lt
          have hln : Hid ((M.fullL S l c ++ M.rowTo idn d a).length + 1 ≤ 1000000) := hideIt (by
            rw [List.length_append]; have := M.fullL_len HG.out l c; have := M.rowTo_len idn d a; omega)
          have hsz : w.heap.size ≤ wr.heap.size := gx.size
          clear hdc Z
          cases hz : (k0 != 0)
          · go_wp2
            go_roundg (gk - 1)
            case rel => exact ⟨a + 1, by omega, by go_num, hideIt (by
              rw [M.rowTo_succ, hdk.out, if_neg (by simpa using hz), List.append_nil]; exact HL2.out), gx⟩
            case measure => omega
          · have HO : Hid (Lst (wr.alloc (.cells #[.int .i64 idn, .int .i64 a] 31)) w.heap.size u3 (M.fullL S l c ++ M.rowTo idn d a)) := hideIt (HL2.out.kept (gbAlloc _ _ _))
            have HR : Hid (Row (wr.alloc (.cells #[.int .i64 idn, .int .i64 a] 31)) ⟨wr.heap.size, 0, none⟩ [(idn, (a : Int))]) := hideIt (rowOne wr idn a)
            go_wp2_with (at_builtin; refine wpList_append_slot rfl (.tmp 41) (.tmp 52) rfl w.heap.size _ _ rfl HO.out ⟨wr.heap.size, 0, none⟩ 1 1 [(idn, (a : Int))] rfl rfl HR.out hln.out (by simp; omega) ?_; intro v3 w3 ho3 hg3; have ho3 : Hid (Lst w3 w.heap.size v3 ((M.fullL S l c ++ M.rowTo idn d a) ++ [(idn, (a : Int))])) := ho3)
            have G3 : w.grownBy w3 none := gbNews (gbTrans (gbAny (gbTrans gx (gbAlloc _ _ _)) _) hg3) (fun k e => (hown k e).1)
            go_roundg (gk - 1)
            case rel => exact ⟨a + 1, by omega, by go_num, hideIt (by
              rw [M.rowTo_succ, hdk.out, if_pos (by simpa using hz), ← List.append_assoc]; exact ho3.out), G3⟩
            case measure => omega
        · have hla' : ¬ (a : Int) < (q : Int) := by omega
          obtain rfl : a = q := by omega
          go_wp2
          go_roundg (Gk - 1)
          case rel => exact ⟨c + 1, by omega, by go_num, hideIt (by rw [M.fullL_succ HE.out HD.out, HQ.out, HI.out]; exact HL2.out), gx⟩
          case measure => omega
    · have hlt' : ¬ (c : Int) < (n : Int) := by omega
      obtain rfl : c = n := by omega
      go_wp2
      go_ret
      exact ⟨_, rfl, HL.out, gw⟩

set_option maxHeartbeats 400000 in
theorem rfull_none {w : World} {p : Nat} (hc : w.cell? ⟨p, 0, none⟩ = some (.slice none 0 0)) :
    Calls Tryz.prog 49 #[.pointer (some ⟨p, 0, none⟩)] w fun e w' => e = .returned (.slice none 0 0) ∧ w' = w := by
  go_enter Tryz.func49, Tryz.ntmps49
  go_wp2
  refine wp_loop_rounds 1 ?_
  rw [rounds_succ]
  go_wp2
  go_ret
  exact ⟨rfl, rfl⟩

theorem rfull_is {w : World} {p : Nat} {O : Nat → Prop} {S : St} (h : RAt u w p O S) (G : Good S) :
    Calls Tryz.prog 49 #[.pointer (some ⟨p, 0, none⟩)] w fun e w' => ∃ v, e = .returned v ∧ Lst w' w.heap.size v (M.full S) ∧ w.grownBy w' none := by
  obtain ⟨v, l, h, _⟩ := h
  have hE := M.full_is_list G h.srt (fun e he => by obtain ⟨d, hd, _⟩ := h.node e he; exact ⟨d, hd⟩) h.gone
  have hlen := h.len G
  rw [hE]
  have ls := h.ls
  rcases ls.form with ⟨rfl, rfl⟩ | ⟨g, cap, rfl, _, _, _, _⟩
  · refine (rfull_none h.cell).mono ?_
    rintro e w' ⟨rfl, rfl⟩
    exact ⟨_, rfl, Lst.nil _ _, gbRefl _ _⟩
  · exact rfull_some (hideIt h) (hideIt G) (hideIt rfl) hlen

/-! ### Count -/
set_option maxRecDepth 10000 in
set_option maxHeartbeats 1000000 in
theorem rcount_is {w : World} {p : Nat} {O : Nat → Prop} {S : St} (h : RAt u w p O S) (G : Good S) (k o v : Int) (hv : (M.cnt S k o : Int) = v) :
    Calls Tryz.prog 12 #[.pointer (some ⟨p, 0, none⟩), .int .i64 k, .int .i64 o] w fun e w' => e = .returned (.int .i64 v) ∧ w.grownBy w' none := by
  have HV := hideIt hv
  have HH := hideIt h
  have HG := hideIt G
  clear h G hv
  go_enter Tryz.func12, Tryz.ntmps12
  go_wp2_with fail
  refine (rfull_is HH.out HG.out).mono ?_
  rintro _ w2 ⟨v2, rfl, hL, hg1⟩
  have hlen : (M.full S).length ≤ 1024 := M.fullTo_len S 64
  obtain ⟨L, hE⟩ : ∃ L, L = M.full S := ⟨_, rfl⟩
  rw [← hE] at hL hlen
  have HE := hideIt hE
  clear hE
  rcases hL.form with ⟨rfl, hnil⟩ | ⟨g, cap, rfl, _, _, _, _, hrow⟩
  · have HR : Hid (M.cnt S k o = 0) := hideIt (by unfold M.cnt; rw [← HE.out, hnil]; rfl)
    clear hL hnil
    go_wp2
    refine wp_loop_rounds 1 ?_
    rw [rounds_succ]
    go_wp2
    go_ret
    exact ⟨ret_int (by rw [← HV.out, HR.out]; rfl), hg1⟩
  obtain ⟨len, hl0⟩ : ∃ len, L.length = len := ⟨_, rfl⟩
  rw [hl0] at hlen ⊢
  have hl := hideIt hl0
  have hR := hideIt hrow
  clear hL hl0 hrow
  go_wp2
  go_loopg [7, 9] len (fun y cnt i wr => ∃ c t : Nat, c + y = len ∧ i = .int .i64 c ∧ cnt = .int .i64 t ∧ Hid (t = M.cntL S k o (L.take c)) ∧ w2.grownBy wr none)
  case atStart => exact ⟨0, 0, by omega, rfl, rfl, hideIt (by simp [M.cntL]), gbRefl _ _⟩
  case round =>
    obtain ⟨c, t, hc, rfl, rfl, HT, gw⟩ := hrel
    by_cases hlt : c < len
    · have hlt' : (c : Int) < (len : Int) := by omega
      obtain ⟨⟨n, i⟩, hp⟩ : ∃ q, L[c]? = some q := ⟨_, List.getElem?_eq_getElem (by rw [hl.out]; exact hlt)⟩
      have E := (hR.out.kept gw) c _ hp
      rw [Addr.add_lit, Nat.zero_add] at E
      obtain ⟨e0, e1⟩ := E
      simp only at e0 e1
      have ht : t ≤ 1024 := by
        rw [HT.out]; exact Nat.le_trans (M.cntL_le _ _ _ _) (by rw [List.length_take]; omega)
      obtain ⟨⟨k0, o0, r0, b0, g0, n0⟩, hdc⟩ : ∃ x, M.getC S n i = x := ⟨_, rfl⟩
      obtain ⟨ge, hge⟩ : ∃ x, M.getE S n i = x := ⟨_, rfl⟩
      have HGt := hideIt (rget_is (HH.out.kept (gbTrans hg1 gw)) HG.out n i k0 o0 r0 b0 g0 n0 ge hdc hge)
      have step : ∀ v : Bool, (k0 == k && o0 == o) = v → M.cntL S k o (L.take (c + 1)) = t + (if v then 1 else 0) := by
        intro v hv
        rw [M.take_succ' hp, M.cntL_app, ← HT.out, M.cntL_one]
        have : M.hit S k o (n, i) = v := by unfold M.hit; rw [hdc]; exact hv
        rw [this]
      have ST := hideIt step
      clear hp hdc hge step
      go_wp2_with fail
      refine HGt.out.mono ?_
      rintro _ w3 ⟨rfl, g3⟩
      clear e0 e1 HGt
      go_upto_region 7 with fail
      obtain ⟨W, hW, X, g4⟩ := boxNew w3 ⟨k0, o0, r0, b0, g0, n0⟩
      simp only at hW
      rw [hW]
      clear hW
      have z0 := X.at0
      have z1 := X.at1
      simp only at z0 z1
      have G3 := gbTrans gw (gbTrans g3 g4)
      cases hv1 : (k0 == k)
      · go_wp2
        go_roundg (gk - 1)
        case rel => exact ⟨c + 1, t, by omega, by go_num, rfl, hideIt (by rw [ST.out false (by rw [hv1]; rfl)]; rfl), G3⟩
        case measure => omega
      · cases hv2 : (o0 == o)
        · go_wp2
          go_roundg (gk - 1)
          case rel => exact ⟨c + 1, t, by omega, by go_num, rfl, hideIt (by rw [ST.out false (by rw [hv1, hv2]; rfl)]; rfl), G3⟩
          case measure => omega
        · go_wp2
          go_roundg (gk - 1)
          case rel => exact ⟨c + 1, t + 1, by omega, by go_num, by go_num, hideIt (by rw [ST.out true (by rw [hv1, hv2]; rfl)]; rfl), G3⟩
          case measure => omega
    · have hlt' : ¬ (c : Int) < (len : Int) := by omega
      obtain rfl : c = len := by omega
      have HR : Hid (M.cnt S k o = t) := hideIt (by
        rw [HT.out, List.take_of_length_le (by rw [hl.out]; exact Nat.le_refl _), HE.out]; rfl)
      go_wp2
      go_ret
      exact ⟨ret_int (by rw [← HV.out, HR.out]), gbTrans hg1 gw⟩

/-! ### The same slots -/
theorem run_equal_slot (w : World) (a0 a1 : Int) : (Op.equalIn 10000 31 (.agg #[.int .i64 a0, .int .i64 a1]) (.agg #[.int .i64 a0, .int .i64 a1])).run Tryz.prog w = .ok true w := by
  rw [run_equalIn_agg w 9999 31 _ _ (by kernel_rfl) (by kernel_rfl)]
  simp only [go_sem, Program.fieldsOf, Tryz.underlying31]
  simp [go_sem, Tryz.underlying3]
theorem run_neq_slot (w : World) (a0 a1 : Int) : (binOp .neq 31 (.agg #[.int .i64 a0, .int .i64 a1]) (.agg #[.int .i64 a0, .int .i64 a1])).run Tryz.prog w = .ok (.bool false) w := by
  rw [run_neq_struct, run_equal_slot]; rfl
theorem eqGuardSlot : Tryz.prog.eqGuardType Tryz.prog.depth 31 = false := by kernel_rfl

set_option maxHeartbeats 1000000 in
theorem same_some {w : World} {g g' n cap cap' : Nat} {L : List (Int × Int)} (hn : Hid (L.length = n)) (hn2 : n ≤ 1024) (HR : Hid (Row w ⟨g, 0, none⟩ L)) (HR' : Hid (Row w ⟨g', 0, none⟩ L)) :
    Calls Tryz.prog 13 #[.slice (some ⟨g, 0, none⟩) n cap, .slice (some ⟨g', 0, none⟩) n cap'] w fun e w' => e = .returned (.bool true) ∧ w.grownBy w' none := by
  have qe := eqGuardSlot
  have qn := run_neq_slot
  go_enter Tryz.func13, Tryz.ntmps13
  go_wp2
  go_loopg [5] n (fun y i wr => ∃ c : Nat, c + y = n ∧ i = .int .i64 c ∧ w.grownBy wr none)
  case atStart => exact ⟨0, by omega, rfl, gbRefl _ _⟩
  case round =>
    obtain ⟨c, hc, rfl, gw⟩ := hrel
    by_cases hlt : c < n
    · have hlt' : (c : Int) < (n : Int) := by omega
      obtain ⟨⟨a, i⟩, hp⟩ : ∃ q, L[c]? = some q := ⟨_, List.getElem?_eq_getElem (by rw [hn.out]; exact hlt)⟩
      have E := (HR.out.kept gw) c _ hp
      have E' := (HR'.out.kept gw) c _ hp
      rw [Addr.add_lit, Nat.zero_add] at E E'
      simp only at E E'
      have e0 : ∀ y : Gr wr, y.w.cell? ⟨g, c * 2, none⟩ = some (.int .i64 a) := fun y => (E.kept y.g).at0
      have e1 : ∀ y : Gr wr, y.w.cell? ⟨g, c * 2 + 1, none⟩ = some (.int .i64 i) := fun y => (E.kept y.g).at1
      have e2 : ∀ y : Gr wr, y.w.cell? ⟨g', c * 2, none⟩ = some (.int .i64 a) := fun y => (E'.kept y.g).at0
      have e3 : ∀ y : Gr wr, y.w.cell? ⟨g', c * 2 + 1, none⟩ = some (.int .i64 i) := fun y => (E'.kept y.g).at1
      clear hp E E'
      go_wp2
      refine wp_region_grown (by kernel_rfl) (by kernel_rfl) fun _ => ?_
      repeat (go_big_quiet_step (fail))
      refine wpQuiet_nil ?_
      rintro w2 ⟨⟨_, g2⟩, rfl⟩
      go_wp2
      go_roundg (gk - 1)
      case rel => exact ⟨c + 1, by omega, by go_num, gbTrans gw g2⟩
      case measure => omega
    · have hlt' : ¬ (c : Int) < (n : Int) := by omega
      go_wp2
      go_ret
      exact ⟨rfl, gw⟩
set_option maxHeartbeats 400000 in
theorem same_none (w : World) (x y : Option Addr) (cap cap' : Nat) :
    Calls Tryz.prog 13 #[.slice x 0 cap, .slice y 0 cap'] w fun e w' => e = .returned (.bool true) ∧ w.grownBy w' none := by
  go_enter Tryz.func13, Tryz.ntmps13
  go_wp2
  refine wp_loop_rounds 1 ?_
  rw [rounds_succ]
  go_wp2
  go_ret
  exact ⟨rfl, gbRefl _ _⟩
theorem same_is {w : World} {B B' : Nat} {v v' : Value} {L : List (Int × Int)} (h : Lst w B v L) (h' : Lst w B' v' L) (hl : L.length ≤ 1024) :
    Calls Tryz.prog 13 #[v, v'] w fun e w' => e = .returned (.bool true) ∧ w.grownBy w' none := by
  rcases h.form with ⟨rfl, rfl⟩ | ⟨g, cap, rfl, _, _, _, _, hr⟩
  · rcases h'.form with ⟨rfl, _⟩ | ⟨g', cap', rfl, _⟩
    · exact same_none w _ _ _ _
    · exact same_none w _ _ _ _
  · rcases h'.form with ⟨rfl, rfl⟩ | ⟨g', cap', rfl, _, _, _, _, hr'⟩
    · exact same_none w _ _ _ _
    · exact same_some (hideIt rfl) hl (hideIt hr) (hideIt hr')

end Go.Proofs.YtdnoidnpiaadaaaGreat

/-
  LISTS OF NODES THAT ARE APPENDED TO ONE ANOTHER; a node's slots, made; the document's list with one node more, or one fewer.
-/
namespace Go.Proofs.YtdnoidnpiaadaaaGreat
open Go.RowKit
set_option linter.unusedVariables false
set_option maxRecDepth 10000
variable {u : Value}

theorem Tryz.infoNode : (Tryz.prog.info? 98).map (fun i => (i.zero, i.size, i.bytes)) = some (some (.agg #[.int .i64 0, .int .i64 0, .slice none 0 0]), 3, 40) := by kernel_rfl

theorem run_append3 (w : World) (B : Nat) (v : Value) (l : List RE) (hown : Lst3 w B v l) (ty : TypeId) (ox : Option Addr) (m c : Nat) (k : List RE) (hm : k.length = m) (hno : ox = none → m = 0) (hx : ∀ ad, ox = some ad → ∀ j u, (cells3 k)[j]? = some u → w.cell? (ad.add j) = some u) (hn : l.length + m ≤ 1000) (hB : B ≤ w.heap.size) :
    ∃ v' w', (Builtin.append_ #[41, 41] ty #[v, .slice ox m c]).run Tryz.prog w = .ok v' w' ∧ Lst3 w' B v' (l ++ k) ∧ w.grownBy w' v.ownBlock ∧ (v'.ownBlock = v.ownBlock ∨ v'.ownBlock = some w.heap.size) := by
  obtain ⟨i, hi, hx0⟩ := Option.map_eq_some_iff.1 Tryz.infoNode
  simp only [Prod.mk.injEq] at hx0
  obtain ⟨hz0, hz1, hz2⟩ := hx0
  cases ox with
  | some ad =>
    obtain ⟨v', w', h1, h2, h3, _, h5⟩ := run_append_own_at (P := Tryz.prog) w B 41 ty 98 i (.agg #[.int .i64 0, .int .i64 0, .slice none 0 0]) 3 40 Tryz.underlying41 hi hz0 hz1 hz2 (by kernel_rfl) (by decide) v l.length (cells3 l) hown ad m c (cells3 k) (by rw [cells3_len, hm]) (hx ad rfl) (cells3_one k) (by unfold maxLen; omega) (by omega) hB
    refine ⟨v', w', h1, ?_, h3, h5⟩
    unfold Lst3
    rw [← cells3_app, List.length_append, hm]
    exact h2
  | none =>
    obtain rfl : m = 0 := hno rfl
    obtain rfl : k = [] := List.eq_nil_of_length_eq_zero hm
    refine ⟨v, w, ?_, by rw [List.append_nil]; exact hown, gbRefl _ _, .inl rfl⟩
    rcases hown.2 with ⟨rfl, _⟩ | ⟨g, cap, cur, rfl, _, _, hnc, _⟩
    · simp [Builtin.append_, run_underlying Tryz.underlying41, sizeOf, typeInfo, hi, Builtin.lenOf, Builtin.firstCells]
    · have : l.length + 0 ≤ cap := by omega
      simp [Builtin.append_, run_underlying Tryz.underlying41, sizeOf, typeInfo, hi, Builtin.lenOf, Builtin.firstCells, storeCells, hnc]

theorem wpList_append3 {w : World} {ops : Array Oper} {rest : List Oper} {o : Oper} {a : Act} {Q : Exit → Act → World → Prop} (hgd : o.guard = none) (s x : Operand)
    (ho : o.op = .call { callee := .builtin .append, args := #[s, x], argTypes := #[41, 41] })
    (B : Nat) (v : Value) (l : List RE) (hs : a.eval s = v) (hown : Lst3 w B v l) (ox : Option Addr) (m c : Nat) (k : List RE) (hx : a.eval x = .slice ox m c) (hm : k.length = m) (hno : ox = none → m = 0) (hxc : ∀ ad, ox = some ad → ∀ j u, (cells3 k)[j]? = some u → w.cell? (ad.add j) = some u)
    (hn : l.length + m ≤ 1000) (hB : B ≤ w.heap.size)
    (h : ∀ v' w', Lst3 w' B v' (l ++ k) → w.grownBy w' v.ownBlock → (v'.ownBlock = v.ownBlock ∨ v'.ownBlock = some w.heap.size) → wpList Tryz.prog ops Q rest (a.put o.dst v') w') : wpList Tryz.prog ops Q (o :: rest) a w := by
  refine wpList_plain hgd fun K' hK' => ?_
  obtain ⟨v', w', hr, h1, h2, h3⟩ := run_append3 w B v l hown o.type ox m c k hm hno hxc hn hB
  unfold Oper.wp execOp
  simp only [ho, resolve, invoke, builtin, Sem.run_bind, Sem.run_pure, Result.andThen_ok, List.map_toArray, List.map_cons, List.map_nil, hs, hx, hr]
  exact hK' _ _ (h v' w' h1 h2 h3)
theorem step_append3 {ops : Array Oper} {o : Oper} {a : Act} {w : World} {K : Act → World → Prop} {Q : Exit → Act → World → Prop} {E : Prop} (hg : o.guard = none) (s x : Operand)
    (ho : o.op = Op.call { callee := Callee.builtin Builtin.append, args := #[s, x], argTypes := #[41, 41] })
    (B : Nat) (v : Value) (l : List RE) (hs : a.eval s = v) (hown : Lst3 w B v l) (ox : Option Addr) (m c : Nat) (k : List RE) (hx : a.eval x = .slice ox m c) (hm : k.length = m) (hno : ox = none → m = 0) (hxc : ∀ ad, ox = some ad → ∀ j u, (cells3 k)[j]? = some u → w.cell? (ad.add j) = some u)
    (hn : l.length + m ≤ 1000) (hB : B ≤ w.heap.size)
    (h : ∀ v' w', Lst3 w' B v' (l ++ k) → w.grownBy w' v.ownBlock → (v'.ownBlock = v.ownBlock ∨ v'.ownBlock = some w.heap.size) → K (a.put o.dst v') w') :
    if Region.wanted o (yielded ops a.tmps) = true then Oper.wp Tryz.prog o a w K Q else E := by
  have hw : Region.wanted o (yielded ops a.tmps) = true := by simp [Region.wanted, hg]
  rw [if_pos hw]
  obtain ⟨v', w', hr, h1, h2, h3⟩ := run_append3 w B v l hown o.type ox m c k hm hno hxc hn hB
  unfold Oper.wp execOp
  simp only [ho, resolve, invoke, builtin, Sem.run_bind, Sem.run_pure, Result.andThen_ok, List.map_toArray, List.map_cons, List.map_nil, hs, hx, hr]
  exact h v' w' h1 h2 h3

/-- The empty list, as it is written out. -/
theorem Lst3.made (w : World) : Lst3 (w.alloc (.cells #[] 98)) w.heap.size (.slice (some ⟨w.heap.size, 0, none⟩) 0 0) [] :=
  w.ownsRow_made (base := w.heap.size) (e := 98) (size := 3) #[] 0 (Nat.le_refl _) (by decide) (by simp)
/-- The head of a list, and what lies behind it. -/
theorem Lst3.headCells {w : World} {B g n cap : Nat} {l : List RE} (h : Lst3 w B (.slice (some ⟨g, 0, none⟩) n cap) l) (c : Nat) : ∀ j u, (cells3 (l.take c))[j]? = some u → w.cell? ((⟨g, 0, none⟩ : Addr).add j) = some u := by
  intro j u hu
  rw [← cells3_take, List.getElem?_take] at hu
  split at hu
  · rw [Addr.add_lit, Nat.zero_add]; exact h.cell j u hu
  · cases hu
theorem Lst3.tailCells {w : World} {B g n cap : Nat} {l : List RE} (h : Lst3 w B (.slice (some ⟨g, 0, none⟩) n cap) l) (c : Nat) : ∀ j u, (cells3 (l.drop c))[j]? = some u → w.cell? ((⟨g, c * 3, none⟩ : Addr).add j) = some u := by
  intro j u hu
  rw [← cells3_drop, List.getElem?_drop] at hu
  rw [Addr.add_lit]; exact h.cell _ u hu

/-- A node's slots, made. -/
abbrev zero6 : Array Value := #[.int .i64 0, .int .i64 0, .int .i64 0, .int .u64 0, .int .u64 0, .int .i64 0]
theorem Tryz.infoCap : (Tryz.prog.info? 25).map (fun i => (i.zero, i.size, i.bytes)) = some (some (.agg zero6), 6, 48) := by kernel_rfl
theorem run_make_caps (q : Nat) (hq : q ≤ 16) (w : World) : (Instr.makeSlice 65 (.int .i64 (q : Int)) (.int .i64 (q : Int))).run Tryz.prog w = .ok (.slice (some ⟨w.heap.size, 0, none⟩) q q) (w.alloc (.cells (madeCells zero6 (q * 6)) 25)) := by
  obtain ⟨i, hi, hx0⟩ := Option.map_eq_some_iff.1 Tryz.infoCap
  simp only [Prod.mk.injEq] at hx0
  obtain ⟨hz0, hz1, hz2⟩ := hx0
  have hr := run_make (P := Tryz.prog) w 65 25 i _ Tryz.underlying65 hi hz0 .i64 .i64 q q (by omega) (Int.le_refl _) (by rw [hz2]; omega) (by omega)
  simp only [Int.toNat_natCast, hz1] at hr
  exact hr
theorem CapsAt.made (w : World) (r : Nat) : CapsAt (w.alloc (.cells (madeCells zero6 (2 ^ r * 6)) 25)) w.heap.size ⟨r, fun _ => C.zero⟩ := by
  refine ⟨_, Deep.blk_alloc_new _ _, size_madeCells _ _, fun i hi => ?_⟩
  simp only at hi
  have : i % 6 = 0 ∨ i % 6 = 1 ∨ i % 6 = 2 ∨ i % 6 = 3 ∨ i % 6 = 4 ∨ i % 6 = 5 := by omega
  rcases this with e | e | e | e | e | e <;> simp [madeCells, hi, e, fld]

end Go.Proofs.YtdnoidnpiaadaaaGreat

-- A region that draws its order, walked by a plan: for each operation two numbers read as rows of bits, whom it waits for (E) and from whom it is apart (A). The plan is held against the operations once; behind that each step's facts are facts of a few numbers.
namespace Go.Proofs.YtdnoidnpiaadaaaGreat.Plan
open Go
set_option linter.unusedVariables false
/-- The list's n-th. -/
def At (l : List Oper) (n : Nat) (o : Oper) : Prop := l[n]? = some o
theorem At.head {o : Oper} {l : List Oper} : At (o :: l) 0 o := rfl
theorem At.get {l : List Oper} {n : Nat} {o : Oper} (h : At l n o) : l[n]? = some o := h
def lst (n m : Nat) : Array Bool := Array.ofFn (n := n) fun i => m.testBit i.1
theorem lst_getD (n m i : Nat) (d : Bool) : (lst n m).getD i d = if i < n then m.testBit i else d := by
  simp only [lst, Array.getD_eq_getD_getElem?]
  by_cases h : i < n <;> simp [h]
def Ek (md : Region.Mode) (E n : Nat) (o : Oper) : Bool :=
  (o.after.toList.all fun e => !Region.binds md e || (E.testBit e.on && decide (e.on < n)))
def Eb (md : Region.Mode) (o : Oper) (E : Nat) : Nat → Bool
  | 0 => true
  | k + 1 => (!E.testBit k || o.after.toList.any (fun e => Region.binds md e && e.on == k)) && Eb md o E k
theorem Eb.out {md : Region.Mode} {o : Oper} {E : Nat} : ∀ {n : Nat}, Eb md o E n = true → ∀ k, k < n → E.testBit k = true → ∃ e ∈ o.after, Region.binds md e = true ∧ e.on = k
  | 0, _, k, hk, _ => absurd hk (by omega)
  | n + 1, h, k, hk, hE => by
    simp only [Eb, Bool.and_eq_true] at h
    by_cases hh : k = n
    · subst hh
      have h1 := h.1
      simp only [hE, Bool.not_true, Bool.false_or, List.any_eq_true, Bool.and_eq_true, beq_iff_eq] at h1
      obtain ⟨e, he, h2, h3⟩ := h1
      exact ⟨e, by simpa using he, h2, h3⟩
    · exact Eb.out h.2 k (by omega) hE
def Ak (md : Region.Mode) (ops : Array Oper) (i : Nat) (oi : Oper) (A : Nat) : Nat → List Oper → Bool
  | _, [] => true
  | j, oj :: r => (!A.testBit j || j == i || oj.after.toList.any (fun e => Region.binds md e && e.on == i) || oi.apart ops oj) && Ak md ops i oi A (j + 1) r
theorem Ak.out {md : Region.Mode} {ops : Array Oper} {i : Nat} {oi : Oper} {A : Nat} : ∀ {r : List Oper} {s : Nat}, Ak md ops i oi A s r = true → ∀ k oj, r[k]? = some oj → A.testBit (s + k) = true → s + k ≠ i → (∀ e ∈ oj.after, Region.binds md e = true → e.on ≠ i) → oi.apart ops oj = true
  | [], _, _, k, oj, hk, _, _, _ => by simp at hk
  | o :: r, s, h, k, oj, hk, hA, hne, hno => by
    simp only [Ak, Bool.and_eq_true] at h
    cases k with
    | zero =>
      simp only [List.getElem?_cons_zero, Option.some.injEq] at hk
      subst hk
      have h1 := h.1
      simp only [Nat.add_zero] at hA hne
      simp only [hA, Bool.not_true, Bool.false_or, Bool.or_eq_true, beq_iff_eq, hne, false_or, List.any_eq_true, Bool.and_eq_true] at h1
      rcases h1 with ⟨e, he, h2, h3⟩ | h1
      · exact absurd h3 (hno e (by simpa using he) h2)
      · exact h1
    | succ k =>
      refine Ak.out h.2 k oj (by simpa using hk) (by rw [← hA]; congr 1; omega) (by omega) hno
def planOk (md : Region.Mode) (ops : Array Oper) (full : List Oper) (n : Nat) : Nat → List Oper → List (Nat × Nat) → Bool
  | _, [], [] => true
  | i, o :: r, (E, A) :: p => Ek md E n o && Eb md o E n && Nat.ble (E + 1) (2 ^ n) && Ak md ops i o A 0 full && planOk md ops full n (i + 1) r p
  | _, _, _ => false
theorem planOk.out {md : Region.Mode} {ops : Array Oper} {full : List Oper} {n : Nat} : ∀ {r : List Oper} {p : List (Nat × Nat)} {s : Nat}, planOk md ops full n s r p = true → ∀ k o, r[k]? = some o → ∃ E A, p[k]? = some (E, A) ∧ Ek md E n o = true ∧ Eb md o E n = true ∧ E < 2 ^ n ∧ Ak md ops (s + k) o A 0 full = true
  | [], _, _, _, k, o, hk => by simp at hk
  | a :: r, [], _, h, _, _, _ => by simp [planOk] at h
  | a :: r, (E, A) :: p, s, h, k, o, hk => by
    simp only [planOk, Bool.and_eq_true] at h
    cases k with
    | zero =>
      simp only [List.getElem?_cons_zero, Option.some.injEq] at hk
      subst hk
      exact ⟨E, A, rfl, h.1.1.1.1, h.1.1.1.2, Nat.le_of_ble_eq_true h.1.1.2, h.1.2⟩
    | succ k =>
      obtain ⟨E', A', h1, h2, h3, h4, h5⟩ := planOk.out h.2 k o (by simpa using hk)
      exact ⟨E', A', by simpa using h1, h2, h3, h4, by rw [← h5]; congr 1; omega⟩
structure Pl (md : Region.Mode) (l : List Oper) (pl : List (Nat × Nat)) (n : Nat) : Prop where
  len : l.length = n
  sel : Region.noSelect l.toArray = true
  ok : planOk md l.toArray l n 0 l pl = true
theorem sub_iff {E m n : Nat} (hE : E < 2 ^ n) : (E &&& m == E) = true ↔ ∀ k, k < n → E.testBit k = true → m.testBit k = true := by
  rw [beq_iff_eq]
  constructor
  · intro h k _ hk
    rw [← h, Nat.testBit_and, Bool.and_eq_true] at hk
    exact hk.2
  · intro h
    apply Nat.eq_of_testBit_eq
    intro k
    rw [Nat.testBit_and]
    by_cases hk : k < n
    · cases he : E.testBit k
      · simp
      · simp [h k hk he]
    · have : E.testBit k = false := Nat.testBit_lt_two_pow (Nat.lt_of_lt_of_le hE (Nat.pow_le_pow_right (by omega) (by omega)))
      simp [this]
theorem Pl.ready {md : Region.Mode} {l : List Oper} {pl : List (Nat × Nat)} {n : Nat} (h : Pl md l pl n) {m k : Nat} {E A : Nat} (hk : pl[k]? = some (E, A)) (hkn : k < n) :
    k ∈ Region.ready md l.toArray (lst n m) ↔ (!m.testBit k && (E &&& m == E)) = true := by
  obtain ⟨o, ho⟩ : ∃ o, l[k]? = some o := ⟨l[k]'(by rw [h.len]; exact hkn), by simp⟩
  obtain ⟨E', A', h1, h2, h3, h4, h5⟩ := planOk.out h.ok k o ho
  rw [hk] at h1
  simp only [Option.some.injEq, Prod.mk.injEq] at h1
  obtain ⟨rfl, rfl⟩ := h1
  rw [mem_ready, lst_getD, if_pos hkn, Bool.and_eq_true, sub_iff h4, Bool.not_eq_true']
  refine and_congr_right fun _ => ⟨?_, ?_⟩
  · rintro ⟨o', ho', hall⟩ b hb hE
    rw [List.getElem?_toArray, ho] at ho'
    cases ho'
    obtain ⟨e, he, he1, he2⟩ := Eb.out h3 b hb hE
    have := hall e he he1
    rw [lst_getD, he2, if_pos hb] at this
    exact this
  · intro hall
    refine ⟨o, by rw [List.getElem?_toArray]; exact ho, fun e he hb => ?_⟩
    have := List.all_eq_true.1 h2 e (by simpa using he)
    simp only [hb, Bool.not_true, Bool.false_or, Bool.and_eq_true, decide_eq_true_eq] at this
    rw [lst_getD, if_pos this.2]
    exact hall _ this.2 this.1
/-- Those that may come up. -/
def rdy (m : Nat) : Nat → List (Nat × Nat) → List Nat
  | _, [] => []
  | j, (E, _) :: p => bif (!m.testBit j && (E &&& m == E)) then j :: rdy m (j + 1) p else rdy m (j + 1) p
theorem mem_rdy {m : Nat} : ∀ {p : List (Nat × Nat)} {s k : Nat}, k ∈ rdy m s p ↔ ∃ j E A, k = s + j ∧ p[j]? = some (E, A) ∧ (!m.testBit k && (E &&& m == E)) = true
  | [], s, k => by simp [rdy]
  | (E, A) :: p, s, k => by
    have ih := @mem_rdy m p (s + 1) k
    have key : (∃ j E' A', k = s + j ∧ ((E, A) :: p)[j]? = some (E', A') ∧ (!m.testBit k && (E' &&& m == E')) = true) ↔ (k = s ∧ (!m.testBit k && (E &&& m == E)) = true) ∨ (∃ j E' A', k = s + 1 + j ∧ p[j]? = some (E', A') ∧ (!m.testBit k && (E' &&& m == E')) = true) := by
      constructor
      · rintro ⟨j, E', A', h1, h2, h3⟩
        cases j with
        | zero => simp at h2; obtain ⟨rfl, rfl⟩ := h2; exact Or.inl ⟨by omega, h3⟩
        | succ j => exact Or.inr ⟨j, E', A', by omega, by simpa using h2, h3⟩
      · rintro (⟨h1, h3⟩ | ⟨j, E', A', h1, h2, h3⟩)
        · exact ⟨0, E, A, by omega, rfl, h3⟩
        · exact ⟨j + 1, E', A', by omega, by simpa using h2, h3⟩
    rw [key, ← ih]
    have hr : rdy m s ((E, A) :: p) = bif (!m.testBit s && (E &&& m == E)) then s :: rdy m (s + 1) p else rdy m (s + 1) p := rfl
    rw [hr]
    cases hc : (!m.testBit s && (E &&& m == E))
    · simp only [cond_false]
      constructor
      · exact Or.inr
      · rintro (⟨rfl, h⟩ | h)
        · rw [hc] at h; cases h
        · exact h
    · simp only [cond_true, List.mem_cons]
      constructor
      · rintro (rfl | h)
        · exact Or.inl ⟨rfl, hc⟩
        · exact Or.inr h
      · rintro (⟨rfl, h⟩ | h)
        · exact Or.inl rfl
        · exact Or.inr h
theorem planOk.len {md : Region.Mode} {ops : Array Oper} {full : List Oper} {n : Nat} : ∀ {r : List Oper} {p : List (Nat × Nat)} {s : Nat}, planOk md ops full n s r p = true → p.length = r.length
  | [], [], _, _ => rfl
  | [], _ :: _, _, h => by simp [planOk] at h
  | _ :: _, [], _, h => by simp [planOk] at h
  | a :: r, (E, A) :: p, s, h => by
    simp only [planOk, Bool.and_eq_true] at h
    simp [planOk.len h.2]
theorem Pl.mem {md : Region.Mode} {l : List Oper} {pl : List (Nat × Nat)} {n : Nat} (h : Pl md l pl n) {m k : Nat} :
    k ∈ Region.ready md l.toArray (lst n m) ↔ k ∈ rdy m 0 pl := by
  have hlen := planOk.len h.ok
  rw [mem_rdy]
  constructor
  · intro hk
    have hkn : k < n := by
      have := (mem_ready.1 hk).1
      rw [lst_getD] at this
      by_cases hh : k < n
      · exact hh
      · rw [if_neg hh] at this; cases this
    have hp : pl[k]? = some (pl[k]'(by rw [hlen, h.len]; exact hkn)) := by simp
    exact ⟨k, _, _, by omega, hp, (h.ready hp hkn).1 hk⟩
  · rintro ⟨j, E, A, rfl, h1, h2⟩
    have hj : 0 + j < n := by
      have := (List.getElem?_eq_some_iff.1 h1).1
      rw [hlen, h.len] at this; omega
    exact (h.ready (by rw [Nat.zero_add]; exact h1) hj).2 h2
section
variable {P : Program} {l : List Oper} {Q : Exit → Act → World → Prop} {md : Region.Mode} {S : World → Prop} {pl : List (Nat × Nat)} {n : Nat}
end
end Go.Proofs.YtdnoidnpiaadaaaGreat.Plan
