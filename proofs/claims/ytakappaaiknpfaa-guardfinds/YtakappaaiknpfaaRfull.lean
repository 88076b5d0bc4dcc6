/-
  THE DOCUMENT'S SIDE (donjonref07): Full, Count, SameSlots.
-/
import Derived.Test.YtakappaaiknpfaaRtake
namespace Go.Proofs.Ytakappaaiknpfaa
open Go.RowKit
set_option linter.unusedVariables false

namespace M
/-- The slots of a node of the list that are not empty. -/
def rowOf (S : St) (e : RE) : List (Int × Int) := match S e.id with | none => [] | some d => rowTo e.id d (2 ^ d.r)
def fullL (S : St) (l : List RE) (c : Nat) : List (Int × Int) := (l.take c).flatMap (rowOf S)
theorem fullL_zero (S : St) (l : List RE) : fullL S l 0 = [] := rfl
theorem fullL_succ {S : St} {l : List RE} {c : Nat} {e : RE} {d : Nd} (h : l[c]? = some e) (hd : S e.id = some d) : fullL S l (c + 1) = fullL S l c ++ rowTo e.id d (2 ^ d.r) := by
  unfold fullL
  rw [List.take_add_one, h, List.flatMap_append]
  simp [rowOf, hd]
theorem rowCut {S : St} (G : Good S) {id : Int} {d : Nd} (hd : S id = some d) : ∀ k, rowTo id d (2 ^ d.r + k) = rowTo id d (2 ^ d.r)
  | 0 => rfl
  | k + 1 => by
    rw [← Nat.add_assoc, rowTo_succ, G.out id d _ hd (Nat.le_add_right _ _), rowCut G hd k]
    simp
theorem row16 {S : St} (G : Good S) {id : Int} {d : Nd} (hd : S id = some d) : rowTo id d 16 = rowTo id d (2 ^ d.r) := by
  have h16 := (radW d.r (G.rad id d hd).1 (G.rad id d hd).2).2.1
  have := rowCut G hd (16 - 2 ^ d.r)
  rwa [show 2 ^ d.r + (16 - 2 ^ d.r) = 16 by omega] at this
theorem filter_snoc : ∀ (l : List RE), l.Pairwise (fun a b => a.id < b.id) → ∀ (e : RE) (m : Nat), e ∈ l → e.id = (m : Int) → l.filter (fun x => decide (x.id < ((m + 1 : Nat) : Int))) = l.filter (fun x => decide (x.id < (m : Int))) ++ [e]
  | [], _, e, m, he, _ => by cases he
  | x :: l, hs, e, m, he, hm => by
    obtain ⟨h1, h2⟩ := List.pairwise_cons.1 hs
    rcases List.mem_cons.1 he with rfl | he
    · have t1 : l.filter (fun x => decide (x.id < ((m + 1 : Nat) : Int))) = [] := List.filter_eq_nil_iff.2 (fun y hy => by have := h1 y hy; simp; omega)
      have t2 : l.filter (fun x => decide (x.id < (m : Int))) = [] := List.filter_eq_nil_iff.2 (fun y hy => by have := h1 y hy; simp; omega)
      rw [List.filter_cons, List.filter_cons, t1, t2, if_pos (by simp; omega), if_neg (by simp; omega)]
      rfl
    · have := h1 e he
      rw [List.filter_cons, List.filter_cons, if_pos (by simp; omega), if_pos (by simp; omega), filter_snoc l h2 e m he hm]
      rfl
theorem full_list {S : St} (G : Good S) {l : List RE} (hs : l.Pairwise (fun a b => a.id < b.id)) (hin : ∀ e ∈ l, ∃ d, S e.id = some d) (hout : ∀ id, (∀ e ∈ l, e.id ≠ id) → S id = none) : ∀ m, fullTo S m = (l.filter fun x => decide (x.id < (m : Int))).flatMap (rowOf S)
  | 0 => by
    have : l.filter (fun x => decide (x.id < ((0 : Nat) : Int))) = [] := List.filter_eq_nil_iff.2 (fun e he => by
      obtain ⟨d, hd⟩ := hin e he
      have := (G.lo _ _ hd).1
      simp; omega)
    rw [this]; rfl
  | m + 1 => by
    cases hm : S m with
    | none =>
      rw [fullTo_none hm, full_list G hs hin hout m]
      congr 1
      apply List.filter_congr
      intro e he
      have : e.id ≠ (m : Int) := fun e2 => by obtain ⟨d, hd⟩ := hin e he; rw [e2, hm] at hd; cases hd
      simp only [decide_eq_decide]
      omega
    | some d =>
      have : ∃ e ∈ l, e.id = (m : Int) := Classical.byContradiction fun hn => by
        have := hout m (fun e he e2 => hn ⟨e, he, e2⟩)
        rw [this] at hm; cases hm
      obtain ⟨e, he, hem⟩ := this
      rw [fullTo_some hm, full_list G hs hin hout m, filter_snoc l hs e m he hem, List.flatMap_append, row16 G hm]
      congr 1
      simp [rowOf, hem, hm]
theorem full_is_list {S : St} (G : Good S) {l : List RE} (hs : l.Pairwise (fun a b => a.id < b.id)) (hin : ∀ e ∈ l, ∃ d, S e.id = some d) (hout : ∀ id, (∀ e ∈ l, e.id ≠ id) → S id = none) : full S = fullL S l l.length := by
  show fullTo S 64 = _
  rw [full_list G hs hin hout 64]
  unfold fullL
  rw [List.take_of_length_le (Nat.le_refl _), List.filter_eq_self.2]
  intro e he
  obtain ⟨d, hd⟩ := hin e he
  have := (G.lo _ _ hd).2
  simp; omega
theorem fullL_len {S : St} (G : Good S) (l : List RE) (c : Nat) : (fullL S l c).length ≤ 16 * c := by
  induction c with
  | zero => simp [fullL]
  | succ c ih =>
    by_cases h : c < l.length
    · have hc : l[c]? = some l[c] := List.getElem?_eq_getElem h
      cases hd : S l[c].id with
      | none =>
        have hrow : rowOf S l[c] = [] := by unfold rowOf; rw [hd]
        have : fullL S l (c + 1) = fullL S l c := by
          unfold fullL
          rw [List.take_add_one, hc, List.flatMap_append]
          simp [hrow]
        rw [this]; omega
      | some d =>
        rw [fullL_succ hc hd, List.length_append]
        have := rowTo_len l[c].id d (2 ^ d.r)
        have h16 := (radW d.r (G.rad _ d hd).1 (G.rad _ d hd).2).2.1
        omega
    · unfold fullL at *
      rw [List.take_of_length_le (by omega)] at ih ⊢
      omega
end M

set_option maxRecDepth 10000 in
set_option maxHeartbeats 1000000 in
theorem rfull_some {w : World} {p g n cap : Nat} {l : List RE} {S : St} (H : Hid (RA w p (.slice (some ⟨g, 0, none⟩) n cap) l S)) (HG : Hid (Good S)) (hn : Hid (l.length = n)) (hn64 : n ≤ 64) :
    Calls Try.prog 17 #[.pointer (some ⟨p, 0, none⟩)] w fun e w' => ∃ v, e = .returned v ∧ Lst w' w.heap.size v (M.fullL S l n) ∧ w.grownBy w' none := by
  go_enter Try.func17, Try.ntmps17
  go_wp2
  go_loopg [3, 4] n (fun y full i wr => ∃ c : Nat, c + y = n ∧ i = .int .i64 c ∧ Hid (Lst wr w.heap.size full (M.fullL S l c)) ∧ w.grownBy wr none)
  case atStart => exact ⟨0, by omega, rfl, hideIt (Lst.nil _ _), gbRefl _ _⟩
  case round =>
    obtain ⟨c, hcn, rfl, HL, gw⟩ := hrel
    have hc := (H.out.kept gw).cell
    by_cases hlt : c < n
    · have hlt' : (c : Int) < (n : Int) := by omega
      obtain ⟨e, he⟩ : ∃ e, l[c]? = some e := ⟨_, List.getElem?_eq_getElem (by rw [hn.out]; exact hlt)⟩
      obtain ⟨d, hd, hr, N⟩ := H.out.node e (List.mem_of_getElem? he)
      have HE := hideIt he
      have HD := hideIt hd
      have HN := hideIt N
      obtain ⟨q, hq⟩ : ∃ q, 2 ^ e.r = q := ⟨_, rfl⟩
      have HQ : Hid (2 ^ d.r = q) := hideIt (by rw [hr]; exact hq)
      have hq16 : q ≤ 16 := by have := (M.radW d.r (HG.out.rad _ d hd).1 (HG.out.rad _ d hd).2).2.1; have := HQ.out; omega
      obtain ⟨idn, hidn⟩ : ∃ idn, e.id = idn := ⟨_, rfl⟩
      obtain ⟨hh, hhh⟩ : ∃ hh, e.h = hh := ⟨_, rfl⟩
      have HI := hideIt hidn
      have HHH := hideIt hhh
      have CELLS : Hid (∀ wx : World, w.grownBy wx none → wx.cell? ⟨p, 0, none⟩ = some (.slice (some ⟨g, 0, none⟩) n cap) ∧ wx.cell? ⟨g, c * 3, none⟩ = some (.int .i64 idn) ∧ wx.cell? ⟨g, c * 3 + 2, none⟩ = some (.slice (some ⟨hh, 0, none⟩) q q)) := hideIt (fun wx gx => by
        have h1 := H.out.kept gx
        obtain ⟨e1, e2, e3⟩ := h1.ls.el he
        rw [hidn] at e1
        unfold rev at e3
        rw [hhh, hq] at e3
        exact ⟨h1.cell, e1, e3⟩)
      obtain ⟨_, _, c2⟩ := CELLS.out wr gw
      obtain ⟨wo, rfl⟩ : ∃ wo, wo = wr := ⟨_, rfl⟩
      obtain ⟨Gk, rfl⟩ : ∃ Gk, Gk = gk := ⟨_, rfl⟩
      clear he hd hr N hidn hhh hq
      go_wp2
      clear hc c2
      go_loopg [3, 5] q (fun y full i wx => ∃ a : Nat, a + y = q ∧ i = .int .i64 a ∧ Hid (Lst wx w.heap.size full (M.fullL S l c ++ M.rowTo idn d a)) ∧ w.grownBy wx none)
      case atStart => exact ⟨0, by omega, rfl, hideIt (by rw [M.rowTo_zero, List.append_nil]; exact HL.out), gw⟩
      case round =>
        obtain ⟨a, haq, rfl, HL2, gx⟩ := hrel
        obtain ⟨c0, c1, c2⟩ := CELLS.out wr gx
        by_cases hla : a < q
        · have hla' : (a : Int) < (q : Int) := by omega
          have Z := (HN.out.fr (O := fun _ => False) (Fr.grown gx) (fun e => e)).six a (by have := HQ.out; omega)
          rw [HHH.out] at Z
          obtain ⟨⟨k0, o0, r0, b0, g0, n0⟩, hdc⟩ : ∃ x, d.f a = x := ⟨_, rfl⟩
          rw [hdc] at Z
          have z0 := Z.at0
          simp only at z0
          have hdk := hideIt hdc
          have hown := HL2.out.lt
          have hln : Hid ((M.fullL S l c ++ M.rowTo idn d a).length + 1 ≤ 1000000) := hideIt (by
            rw [List.length_append]; have := M.fullL_len HG.out l c; have := M.rowTo_len idn d a; omega)
          have hsz : w.heap.size ≤ wr.heap.size := gx.size
          clear hdc Z
          cases hz : (k0 != 0)
          · go_wp2
            go_roundg (gk - 1)
            case rel => exact ⟨a + 1, by omega, by go_num, hideIt (by
              rw [M.rowTo_succ, hdk.out, if_neg (by simpa using hz), List.append_nil]; exact HL2.out), gx⟩
            case measure => omega
          · have HO : Hid (Lst (wr.alloc (.cells #[.int .i64 idn, .int .i64 a] 32)) w.heap.size u3 (M.fullL S l c ++ M.rowTo idn d a)) := hideIt (HL2.out.kept (gbAlloc _ _ _))
            have HR : Hid (Row (wr.alloc (.cells #[.int .i64 idn, .int .i64 a] 32)) ⟨wr.heap.size, 0, none⟩ [(idn, (a : Int))]) := hideIt (rowOne wr idn a)
            go_wp2_with (at_builtin; refine wpList_append_slot rfl (.tmp 41) (.tmp 52) rfl w.heap.size _ _ rfl HO.out ⟨wr.heap.size, 0, none⟩ 1 1 [(idn, (a : Int))] rfl rfl HR.out hln.out (by simp; omega) ?_; intro v3 w3 ho3 hg3; have ho3 : Hid (Lst w3 w.heap.size v3 ((M.fullL S l c ++ M.rowTo idn d a) ++ [(idn, (a : Int))])) := ho3)
            have G3 : w.grownBy w3 none := gbNews (gbTrans (gbAny (gbTrans gx (gbAlloc _ _ _)) _) hg3) (fun k e => (hown k e).1)
            go_roundg (gk - 1)
            case rel => exact ⟨a + 1, by omega, by go_num, hideIt (by
              rw [M.rowTo_succ, hdk.out, if_pos (by simpa using hz), ← List.append_assoc]; exact ho3.out), G3⟩
            case measure => omega
        · have hla' : ¬ (a : Int) < (q : Int) := by omega
          obtain rfl : a = q := by omega
          go_wp2
          go_roundg (Gk - 1)
          case rel => exact ⟨c + 1, by omega, by go_num, hideIt (by rw [M.fullL_succ HE.out HD.out, HQ.out, HI.out]; exact HL2.out), gx⟩
          case measure => omega
    · have hlt' : ¬ (c : Int) < (n : Int) := by omega
      obtain rfl : c = n := by omega
      go_wp2
      go_ret
      exact ⟨_, rfl, HL.out, gw⟩

set_option maxHeartbeats 400000 in
theorem rfull_none {w : World} {p : Nat} (hc : w.cell? ⟨p, 0, none⟩ = some (.slice none 0 0)) :
    Calls Try.prog 17 #[.pointer (some ⟨p, 0, none⟩)] w fun e w' => e = .returned (.slice none 0 0) ∧ w' = w := by
  go_enter Try.func17, Try.ntmps17
  go_wp2
  refine wp_loop_rounds 1 ?_
  rw [rounds_succ]
  go_wp2
  go_ret
  exact ⟨rfl, rfl⟩

theorem rfull_is {w : World} {p : Nat} {O : Nat → Prop} {S : St} (h : RAt w p O S) (G : Good S) :
    Calls Try.prog 17 #[.pointer (some ⟨p, 0, none⟩)] w fun e w' => ∃ v, e = .returned v ∧ Lst w' w.heap.size v (M.full S) ∧ w.grownBy w' none := by
  obtain ⟨v, l, h, _⟩ := h
  have hE := M.full_is_list G h.srt (fun e he => by obtain ⟨d, hd, _⟩ := h.node e he; exact ⟨d, hd⟩) h.gone
  have hlen := h.len G
  rw [hE]
  have ls := h.ls
  rcases ls.form with ⟨rfl, rfl⟩ | ⟨g, cap, rfl, _, _, _, _⟩
  · refine (rfull_none h.cell).mono ?_
    rintro e w' ⟨rfl, rfl⟩
    exact ⟨_, rfl, Lst.nil _ _, gbRefl _ _⟩
  · exact rfull_some (hideIt h) (hideIt G) (hideIt rfl) hlen

/-! ### Count -/
theorem run_equal_slot (w : World) (a0 a1 : Int) : (Op.equalIn 10000 32 (.agg #[.int .i64 a0, .int .i64 a1]) (.agg #[.int .i64 a0, .int .i64 a1])).run Try.prog w = .ok true w := by
  rw [run_equalIn_agg w 9999 32 _ _ (by kernel_rfl) (by kernel_rfl)]
  simp only [go_sem, Program.fieldsOf, Try.underlying32]
  simp [go_sem, Try.underlying3]
theorem run_neq_slot (w : World) (a0 a1 : Int) : (binOp .neq 32 (.agg #[.int .i64 a0, .int .i64 a1]) (.agg #[.int .i64 a0, .int .i64 a1])).run Try.prog w = .ok (.bool false) w := by
  rw [run_neq_struct, run_equal_slot]; rfl
theorem eqGuardSlot : Try.prog.eqGuardType Try.prog.depth 32 = false := by kernel_rfl

set_option maxHeartbeats 1000000 in
theorem same_some {w : World} {g g' n cap cap' : Nat} {L : List (Int × Int)} (hn : Hid (L.length = n)) (hn2 : n ≤ 1024) (HR : Hid (Row w ⟨g, 0, none⟩ L)) (HR' : Hid (Row w ⟨g', 0, none⟩ L)) :
    Calls Try.prog 15 #[.slice (some ⟨g, 0, none⟩) n cap, .slice (some ⟨g', 0, none⟩) n cap'] w fun e w' => e = .returned (.bool true) ∧ w.grownBy w' none := by
  have qe := eqGuardSlot
  have qn := run_neq_slot
  go_enter Try.func15, Try.ntmps15
  go_wp2
  go_loopg [5] n (fun y i wr => ∃ c : Nat, c + y = n ∧ i = .int .i64 c ∧ w.grownBy wr none)
  case atStart => exact ⟨0, by omega, rfl, gbRefl _ _⟩
  case round =>
    obtain ⟨c, hc, rfl, gw⟩ := hrel
    by_cases hlt : c < n
    · have hlt' : (c : Int) < (n : Int) := by omega
      obtain ⟨⟨a, i⟩, hp⟩ : ∃ q, L[c]? = some q := ⟨_, List.getElem?_eq_getElem (by rw [hn.out]; exact hlt)⟩
      have E := (HR.out.kept gw) c _ hp
      have E' := (HR'.out.kept gw) c _ hp
      rw [Addr.add_lit, Nat.zero_add] at E E'
      simp only at E E'
      have e0 : ∀ y : Gr wr, y.w.cell? ⟨g, c * 2, none⟩ = some (.int .i64 a) := fun y => (E.kept y.g).at0
      have e1 : ∀ y : Gr wr, y.w.cell? ⟨g, c * 2 + 1, none⟩ = some (.int .i64 i) := fun y => (E.kept y.g).at1
      have e2 : ∀ y : Gr wr, y.w.cell? ⟨g', c * 2, none⟩ = some (.int .i64 a) := fun y => (E'.kept y.g).at0
      have e3 : ∀ y : Gr wr, y.w.cell? ⟨g', c * 2 + 1, none⟩ = some (.int .i64 i) := fun y => (E'.kept y.g).at1
      clear hp E E'
      go_wp2
      refine wp_region_grown (by kernel_rfl) (by kernel_rfl) fun _ => ?_
      repeat (go_big_quiet_step (fail))
      refine wpQuiet_nil ?_
      rintro w2 ⟨⟨_, g2⟩, rfl⟩
      go_wp2
      go_roundg (gk - 1)
      case rel => exact ⟨c + 1, by omega, by go_num, gbTrans gw g2⟩
      case measure => omega
    · have hlt' : ¬ (c : Int) < (n : Int) := by omega
      go_wp2
      go_ret
      exact ⟨rfl, gw⟩
set_option maxHeartbeats 400000 in
theorem same_none (w : World) (x y : Option Addr) (cap cap' : Nat) :
    Calls Try.prog 15 #[.slice x 0 cap, .slice y 0 cap'] w fun e w' => e = .returned (.bool true) ∧ w.grownBy w' none := by
  go_enter Try.func15, Try.ntmps15
  go_wp2
  refine wp_loop_rounds 1 ?_
  rw [rounds_succ]
  go_wp2
  go_ret
  exact ⟨rfl, gbRefl _ _⟩
theorem same_is {w : World} {B B' : Nat} {v v' : Value} {L : List (Int × Int)} (h : Lst w B v L) (h' : Lst w B' v' L) (hl : L.length ≤ 1024) :
    Calls Try.prog 15 #[v, v'] w fun e w' => e = .returned (.bool true) ∧ w.grownBy w' none := by
  rcases h.form with ⟨rfl, rfl⟩ | ⟨g, cap, rfl, _, _, _, _, hr⟩
  · rcases h'.form with ⟨rfl, _⟩ | ⟨g', cap', rfl, _⟩
    · exact same_none w _ _ _ _
    · exact same_none w _ _ _ _
  · rcases h'.form with ⟨rfl, rfl⟩ | ⟨g', cap', rfl, _, _, _, _, hr'⟩
    · exact same_none w _ _ _ _
    · exact same_some (hideIt rfl) hl (hideIt hr) (hideIt hr')

end Go.Proofs.Ytakappaaiknpfaa
