/-
  THE DOCUMENT's SIDE: the contracts of donjonref14's number, Get, Drop, Flush.
-/
import Derived.Test.YtmmjmloaefcmmaaTta
import Derived.Test.YtmmjmloaefcmmaaRto
namespace Go.Proofs.Ytmmjmloaefcmmaa
set_option maxRecDepth 10000
open Go.RowKit
set_option linter.unusedVariables false

set_option maxHeartbeats 400000 in
theorem number_is (s : Int) (v : Bool) (h : M.nr s = v) (w : World) : Calls Try.prog 37 #[.int .i64 s] w fun e w' => e = .returned (.bool v) ∧ w' = w := by
  subst h
  by_cases c1 : 0 ≤ s
  · rw [show M.nr s = decide (s ≤ 63) by simp [M.nr, c1]; omega]
    go_enter Try.func37, Try.ntmps37
    go_wp2
    go_ret
    exact ⟨rfl, rfl⟩
  · rw [show M.nr s = false by simp [M.nr, c1]]
    go_enter Try.func37, Try.ntmps37
    go_wp2
    go_ret
    exact ⟨rfl, rfl⟩

/-- The elements of a list, wherever it lies, as long as nothing turns. -/
def Els (w : World) (x : Option Addr) (L : List K) : Prop := ∀ w', w.grownBy w' none → ∀ j k, L[j]? = some k → ∃ g, x = some ⟨g, 0, none⟩ ∧ Kel w' g (j * 5) k
theorem KL.els {tk : TypeId} {w : World} {B : Nat} {v : Value} {L : List K} (h : KL tk w B v L) : ∃ x cap, v = .slice x L.length cap ∧ L.length ≤ cap ∧ cap ≤ 9223372036854775807 ∧ Els w x L := by
  rcases h.form with ⟨rfl, rfl⟩ | ⟨g, cap, rfl, h1, _, _, h2⟩
  · exact ⟨none, 0, rfl, by simp, by omega, fun w' _ j k hk => by simp at hk⟩
  · exact ⟨_, cap, rfl, h1, h2, fun w' gw j k hk => ⟨g, rfl, (h.kept gw).el rfl j k hk⟩⟩

/-! ### Get -/
set_option maxHeartbeats 2000000 in
theorem rget_at (w : World) (t n cap : Nat) (x : Option Addr) (L : List K) (hc : w.cell? ⟨t, 0, none⟩ = some (.slice x n cap)) (hel : Els w x L) (hn : L.length = n) (h8 : n ≤ 1000) (s p : Int) (e : E) (o : Bool) (h : M.kg L s p = (e, o)) :
    Calls Try.prog 22 #[.pointer (some ⟨t, 0, none⟩), .int .i64 s, .int .i64 p] w fun x w' => x = .returned (.tuple #[ev e, .bool o]) ∧ w.grownBy w' none := by
  have X0 : Box (w.alloc (.cells #[.bool false, .bool false, .int .i64 0] 35)) w.heap.size E.zero := Box.made w E.zero _
  have G0 := gbAlloc w (.cells #[.bool false, .bool false, .int .i64 0] 35) none
  have HC := hideIt hc
  have HE := hideIt hel
  have HH := hideIt h
  have hn := hideIt hn
  obtain ⟨w1, hw1⟩ : ∃ w1, w.alloc (.cells #[.bool false, .bool false, .int .i64 0] 35) = w1 := ⟨_, rfl⟩
  rw [hw1] at X0 G0
  clear h hel hc
  go_enter Try.func22, Try.ntmps22
  go_wp2
  clear hw1
  go_loopg [8] n (fun gk i wr => ∃ j : Nat, j + gk = n ∧ i = .int .i64 j ∧ w1.grownBy wr none ∧ Hid (M.kg (L.drop j) s p = (e, o)))
  case atStart => exact ⟨0, by omega, rfl, gbRefl _ _, HH⟩
  case round =>
    obtain ⟨j, hj, rfl, gw, hg⟩ := hrel
    have GW := gbTrans G0 gw
    have hc := GW.cell HC.out (by simp)
    obtain ⟨a0, a1, a2, lt, fr⟩ := X0.kept gw
    simp only at a0 a1 a2
    have f0 := fr 0
    have f1 := fr 1
    have f2 := fr 2
    by_cases hlt : j < n
    · obtain ⟨k, hk⟩ : ∃ k, L[j]? = some k := ⟨L[j]'(by rw [hn.out]; exact hlt), List.getElem?_eq_getElem _⟩
      obtain ⟨g, rfl, k0, k1, k2, k3, k4, _, _⟩ := HE.out wr GW j k hk
      have hd := M.kg_drop (s := s) (p := p) hk
      rw [hg.out] at hd
      unfold M.seq at hd
      cases hs : (k.s == s) with
      | false =>
        rw [hs] at hd
        simp only [Bool.false_and, Bool.false_eq_true, if_false] at hd
        have hd := hideIt hd.symm
        go_wp2
        go_roundg (gk - 1)
        case rel => exact ⟨j + 1, by omega, by go_num, gw, hd⟩
        case measure => omega
      | true =>
        cases hp : (k.p == p) with
        | false =>
          rw [hs, hp] at hd
          simp only [Bool.and_false, Bool.false_eq_true, if_false] at hd
          have hd := hideIt hd.symm
          go_wp2
          go_roundg (gk - 1)
          case rel => exact ⟨j + 1, by omega, by go_num, gw, hd⟩
          case measure => omega
        | true =>
          rw [hs, hp] at hd
          simp only [Bool.and_true, if_true, Prod.mk.injEq] at hd
          obtain ⟨rfl, rfl⟩ := hd
          go_wp2
          exact bodyPost_ret (v := .tuple #[ev k.e, .bool true]) (by simp [results, Try.results22, go_sem, a0, a1, a2]) rfl ⟨rfl, by repeat (first | with_reducible exact GW | refine gbDrew ?_ | refine gbSetNew ?_ _ _ _ (by omega))⟩
    · have hg := hg.out
      rw [M.kg_end (by rw [hn.out]; omega)] at hg
      simp only [Prod.mk.injEq] at hg
      obtain ⟨rfl, rfl⟩ := hg
      go_wp2
      exact bodyPost_ret (v := .tuple #[ev E.zero, .bool false]) (by simp [results, Try.results22, go_sem, a0, a1, a2]) rfl ⟨rfl, by repeat (first | with_reducible exact GW | refine gbDrew ?_ | refine gbSetNew ?_ _ _ _ (by omega))⟩
theorem rget_is {w0 w : World} {O : Nat → Prop} {t : Nat} {L : List K} (h : Tr w0 w O t L) (s p : Int) (e : E) (o : Bool) (hg : M.kg L s p = (e, o)) :
    Calls Try.prog 22 #[.pointer (some ⟨t, 0, none⟩), .int .i64 s, .int .i64 p] w fun x w' => x = .returned (.tuple #[ev e, .bool o]) ∧ w.grownBy w' none := by
  obtain ⟨v, h1, h2, _⟩ := h.ex
  obtain ⟨x, cap, rfl, _, _, h3⟩ := h2.els
  exact rget_at w t _ cap x L (cellOf h1) h3 rfl (by have := h.gd.len; omega) s p e o hg

/-! ### Drop, Flush -/
theorem wpList_append_kr {w : World} {ops : Array Oper} {rest : List Oper} {o : Oper} {a : Act} {Q : Exit → Act → World → Prop} (hgd : o.guard = none) (s x : Operand)
    (ho : o.op = .call { callee := .builtin .append, args := #[s, x], argTypes := #[31, 31] }) (vs vx : Value) (hs : a.eval s = vs) (hx : a.eval x = vx)
    (v' : Value) (w' : World) (hr : (Builtin.append_ #[31, 31] o.type #[vs, vx]).run Try.prog w = .ok v' w') (h : wpList Try.prog ops Q rest (a.put o.dst v') w') : wpList Try.prog ops Q (o :: rest) a w := by
  refine wpList_plain hgd fun K' hK' => ?_
  unfold Oper.wp execOp
  simp only [ho, resolve, invoke, builtin, Sem.run_bind, Sem.run_pure, Result.andThen_ok, List.map_toArray, List.map_cons, List.map_nil, hs, hx, hr]
  exact hK' _ _ h
theorem gbNewsK {a b : World} {r : Option Nat} (h : a.grownBy b r) (hr : ∀ k, r = some k → a.heap.size ≤ k) : a.grownBy b none :=
  ⟨h.os, h.tape, h.output, h.size, fun i hi _ => h.block i hi (fun e => by have := hr i e.symm; omega)⟩
/-- append onto a list of the call's own, seen from a world in which the list was not there. -/
theorem KL.push {w0 w : World} {v : Value} {L : List K} (h : KL 95 w w0.heap.size v L) (g : w0.grownBy w none) (ad : Addr) (m c : Nat) (D : List K) (hm : D.length = m) (hx : ∀ j u, (cellsK D)[j]? = some u → w.cell? (ad.add j) = some u) (hn : L.length + m ≤ 100000) :
    ∃ x n cap w', (Builtin.append_ #[31, 31] 31 #[v, .slice (some ad) m c]).run Try.prog w = .ok (.slice x n cap) w' ∧ Hid (KL 95 w' w0.heap.size (.slice x n cap) (L ++ D)) ∧ Hid (w0.grownBy w' none) := by
  obtain ⟨v', w', h1, h2, h3, h4⟩ := run_append_r w w0.heap.size v L h 31 ad m c D hm hx hn g.size
  obtain ⟨x, cap, rfl, _⟩ := h2.els
  exact ⟨x, _, cap, w', h1, hideIt h2, hideIt (gbNewsK (gbTrans (gbAny g _) h3) (fun k hk => (h.lt k hk).1))⟩
theorem filter_snoc {L : List K} {q : Nat} {k : K} {P : K → Bool} (h : L[q]? = some k) : (L.take (q + 1)).filter P = (L.take q).filter P ++ if P k = true then [k] else [] := by
  rw [List.take_add_one, List.filter_append, h]
  congr 1
  cases hk : P k <;> simp [hk]
/-- The list in its place. -/
theorem Tb_swap {ty tk : TypeId} {w0 w w' : World} {O : Nat → Prop} {t : Nat} {L L' : List K} {v : Value} (h : Tb ty tk w0 w O t L) (g : w.grownBy w' none) (l : KL tk w' w.heap.size v L') (gd : Good L') : Tb ty tk w0 (w'.setCell ⟨t, 0, none⟩ v) (wide O w (w'.setCell ⟨t, 0, none⟩ v)) t L' ∧ Fr O w (w'.setCell ⟨t, 0, none⟩ v) := by
  obtain ⟨v0, h1, h2, h3⟩ := h.ex
  have ht := (g.block t h.tlt (by simp)).trans h1
  have F : Fr O w (w'.setCell ⟨t, 0, none⟩ v) := (Fr.grown g).trans (Fr.at (gbSetCell _ t 0 _) h.ot)
  have tl := h.tlt
  have hne : ∀ k, v.ownBlock = some k → k ≠ t := fun k hk => by have := (l.lt k hk).1; omega
  exact ⟨h.turn (v := v0) F (heapSet ht) ((l.keep (gbSetCell _ _ _ _) hne).base (fun k hk => Nat.le_trans h.gr.size (l.lt k hk).1)) (fun k hk => ⟨hne k hk, .inr (l.lt k hk).1⟩) gd, F⟩

set_option maxHeartbeats 2000000 in
theorem rdrop_at (w : World) (t n cap : Nat) (x : Option Addr) (L : List K) (hc : w.cell? ⟨t, 0, none⟩ = some (.slice x n cap)) (hf : w.frozen? ⟨t, 0, none⟩ = false) (hel : Els w x L) (hn : L.length = n) (h8 : n ≤ 1000) (s p : Int) :
    Calls Try.prog 16 #[.pointer (some ⟨t, 0, none⟩), .int .i64 s, .int .i64 p] w fun e w' => e = .returned (.tuple #[]) ∧ ∃ v w1, KL 95 w1 w.heap.size v (M.kd L s p) ∧ w.grownBy w1 none ∧ w' = w1.setCell ⟨t, 0, none⟩ v := by
  have HC := hideIt hc
  have HF := hideIt hf
  have HE := hideIt hel
  have hn := hideIt hn
  have tl := World.block_lt_of_cell? w _ hc
  clear hel hc hf
  go_enter Try.func16, Try.ntmps16
  go_wp2
  go_loopg [6, 7] n (fun gk vl i wr => ∃ j : Nat, j + gk = n ∧ i = .int .i64 j ∧ w.grownBy wr none ∧ Hid (KL 95 wr w.heap.size vl ((L.take j).filter fun k => !M.here s p k)))
  case atStart => exact ⟨0, by omega, rfl, gbRefl _ _, hideIt (by rw [List.take_zero]; exact KL.nil _ _ _)⟩
  case round =>
    obtain ⟨j, hj, rfl, gw, HL⟩ := hrel
    have hc := gw.cell HC.out (by simp)
    by_cases hlt : j < n
    · obtain ⟨k, hk⟩ : ∃ k, L[j]? = some k := ⟨L[j]'(by rw [hn.out]; exact hlt), List.getElem?_eq_getElem _⟩
      obtain ⟨g, rfl, k0, k1, k2, k3, k4, _, _⟩ := HE.out wr gw j k hk
      have hd := filter_snoc (P := fun k => !M.here s p k) hk
      have ga : w.grownBy (wr.alloc (.cells (fiveCells k) 95)) none := gbAllocN gw _
      obtain ⟨xr, nr, cr, w6, hr, HL6, G6⟩ := (HL.out.kept (gbAlloc wr (.cells (fiveCells k) 95) none)).push ga ⟨wr.heap.size, 0, none⟩ 1 1 [k] rfl (rowK wr k _) (by have := List.length_filter_le (fun k => !M.here s p k) (L.take j); rw [List.length_take] at this; omega)
      unfold M.here at hd
      cases hs : (k.s == s) with
      | false =>
        have hs2 : (k.s != s) = true := by simpa using hs
        rw [hs] at hd
        simp only [Bool.false_and, Bool.not_false, if_true] at hd
        have HL7 : Hid (KL 95 w6 w.heap.size (.slice xr nr cr) ((L.take (j + 1)).filter fun k => !M.here s p k)) := hideIt (by show KL _ _ _ _ ((L.take (j + 1)).filter fun k => !(k.s == s && k.p == p)); rw [hd]; exact HL6.out)
        clear hd HL6 hk
        go_wp2_with (at_builtin; refine wpList_append_kr rfl (.tmp 39) (.tmp 47) rfl _ _ rfl rfl (.slice xr nr cr) w6 hr ?_)
        go_roundg (gk - 1)
        case rel => exact ⟨j + 1, by omega, by go_num, G6.out, HL7⟩
        case measure => omega
      | true =>
        have hs2 : (k.s != s) = false := by simpa using hs
        cases hp : (k.p == p) with
        | false =>
          have hp2 : (k.p != p) = true := by simpa using hp
          rw [hs, hp] at hd
          simp only [Bool.and_false, Bool.not_false, if_true] at hd
          have HL7 : Hid (KL 95 w6 w.heap.size (.slice xr nr cr) ((L.take (j + 1)).filter fun k => !M.here s p k)) := hideIt (by show KL _ _ _ _ ((L.take (j + 1)).filter fun k => !(k.s == s && k.p == p)); rw [hd]; exact HL6.out)
          clear hd HL6 hk
          go_wp2_with (at_builtin; refine wpList_append_kr rfl (.tmp 39) (.tmp 47) rfl _ _ rfl rfl (.slice xr nr cr) w6 hr ?_)
          go_roundg (gk - 1)
          case rel => exact ⟨j + 1, by omega, by go_num, G6.out, HL7⟩
          case measure => omega
        | true =>
          have hp2 : (k.p != p) = false := by simpa using hp
          rw [hs, hp] at hd
          simp only [Bool.and_true, Bool.not_true, Bool.false_eq_true, if_false, List.append_nil] at hd
          have HL7 : Hid (KL 95 wr w.heap.size u6 ((L.take (j + 1)).filter fun k => !M.here s p k)) := hideIt (by show KL _ _ _ _ ((L.take (j + 1)).filter fun k => !(k.s == s && k.p == p)); rw [hd]; exact HL.out)
          clear hd HL6 hk hr
          go_wp2
          go_roundg (gk - 1)
          case rel => exact ⟨j + 1, by omega, by go_num, gw, HL7⟩
          case measure => omega
    · have e1 : L.take j = L := List.take_of_length_le (by rw [hn.out]; omega)
      rw [e1] at HL
      clear e1
      have hf := (gbFrozen gw tl (by simp)).trans HF.out
      obtain ⟨xv, cv, hv, _⟩ := HL.out.els
      subst hv
      go_wp2
      exact bodyPost_end (results_none rfl _ _ _) rfl ⟨rfl, _, wr, HL.out, gw, rfl⟩
theorem rdrop_is {w0 w : World} {O : Nat → Prop} {t : Nat} {L : List K} (h : Tr w0 w O t L) (s p : Int) :
    Calls Try.prog 16 #[.pointer (some ⟨t, 0, none⟩), .int .i64 s, .int .i64 p] w fun e w' => e = .returned (.tuple #[]) ∧ Tr w0 w' (wide O w w') t (M.kd L s p) ∧ Fr O w w' := by
  obtain ⟨v, h1, h2, _⟩ := h.ex
  obtain ⟨x, cap, rfl, _, _, h3⟩ := h2.els
  refine (rdrop_at w t _ cap x L (cellOf h1) (frozenOf h1 0) h3 rfl (by have := h.gd.len; omega) s p).mono ?_
  rintro e w' ⟨rfl, v, w1, q1, q2, rfl⟩
  exact ⟨rfl, Tb_swap h q2 q1 (h.gd.kd s p)⟩

set_option maxHeartbeats 2000000 in
theorem rflush_at (w : World) (t n cap : Nat) (x : Option Addr) (L : List K) (hc : w.cell? ⟨t, 0, none⟩ = some (.slice x n cap)) (hf : w.frozen? ⟨t, 0, none⟩ = false) (hel : Els w x L) (hn : L.length = n) (h8 : n ≤ 1000) (s : Int) :
    Calls Try.prog 18 #[.pointer (some ⟨t, 0, none⟩), .int .i64 s] w fun e w' => e = .returned (.tuple #[]) ∧ ∃ v w1, KL 95 w1 w.heap.size v (M.kx L s) ∧ w.grownBy w1 none ∧ w' = w1.setCell ⟨t, 0, none⟩ v := by
  have HC := hideIt hc
  have HF := hideIt hf
  have HE := hideIt hel
  have hn := hideIt hn
  have tl := World.block_lt_of_cell? w _ hc
  clear hel hc hf
  go_enter Try.func18, Try.ntmps18
  go_wp2
  go_loopg [4, 5] n (fun gk vl i wr => ∃ j : Nat, j + gk = n ∧ i = .int .i64 j ∧ w.grownBy wr none ∧ Hid (KL 95 wr w.heap.size vl ((L.take j).filter fun k => !(k.s == s))))
  case atStart => exact ⟨0, by omega, rfl, gbRefl _ _, hideIt (by rw [List.take_zero]; exact KL.nil _ _ _)⟩
  case round =>
    obtain ⟨j, hj, rfl, gw, HL⟩ := hrel
    have hc := gw.cell HC.out (by simp)
    by_cases hlt : j < n
    · obtain ⟨k, hk⟩ : ∃ k, L[j]? = some k := ⟨L[j]'(by rw [hn.out]; exact hlt), List.getElem?_eq_getElem _⟩
      obtain ⟨g, rfl, k0, k1, k2, k3, k4, _, _⟩ := HE.out wr gw j k hk
      have hd := filter_snoc (P := fun k => !(k.s == s)) hk
      have ga : w.grownBy (wr.alloc (.cells (fiveCells k) 95)) none := gbAllocN gw _
      obtain ⟨xr, nr, cr, w6, hr, HL6, G6⟩ := (HL.out.kept (gbAlloc wr (.cells (fiveCells k) 95) none)).push ga ⟨wr.heap.size, 0, none⟩ 1 1 [k] rfl (rowK wr k _) (by have := List.length_filter_le (fun k => !(k.s == s)) (L.take j); rw [List.length_take] at this; omega)
      cases hs : (k.s == s) with
      | false =>
        have hs2 : (k.s != s) = true := by simpa using hs
        rw [hs] at hd
        simp only [Bool.not_false, if_true] at hd
        have HL7 : Hid (KL 95 w6 w.heap.size (.slice xr nr cr) ((L.take (j + 1)).filter fun k => !(k.s == s))) := hideIt (by show KL _ _ _ _ ((L.take (j + 1)).filter fun k => !(k.s == s)); rw [hd]; exact HL6.out)
        clear hd HL6 hk
        go_wp2_with (at_builtin; refine wpList_append_kr rfl (.tmp 25) (.tmp 33) rfl _ _ rfl rfl (.slice xr nr cr) w6 hr ?_)
        go_roundg (gk - 1)
        case rel => exact ⟨j + 1, by omega, by go_num, G6.out, HL7⟩
        case measure => omega
      | true =>
        have hs2 : (k.s != s) = false := by simpa using hs
        rw [hs] at hd
        simp only [Bool.not_true, Bool.false_eq_true, if_false, List.append_nil] at hd
        have HL7 : Hid (KL 95 wr w.heap.size u4 ((L.take (j + 1)).filter fun k => !(k.s == s))) := hideIt (by rw [hd]; exact HL.out)
        clear hd HL6 hk hr
        go_wp2
        go_roundg (gk - 1)
        case rel => exact ⟨j + 1, by omega, by go_num, gw, HL7⟩
        case measure => omega
    · have e1 : L.take j = L := List.take_of_length_le (by rw [hn.out]; omega)
      rw [e1] at HL
      clear e1
      have hf := (gbFrozen gw tl (by simp)).trans HF.out
      obtain ⟨xv, cv, hv, _⟩ := HL.out.els
      subst hv
      go_wp2
      exact bodyPost_end (results_none rfl _ _ _) rfl ⟨rfl, _, wr, HL.out, gw, rfl⟩
theorem rflush_is {w0 w : World} {O : Nat → Prop} {t : Nat} {L : List K} (h : Tr w0 w O t L) (s : Int) :
    Calls Try.prog 18 #[.pointer (some ⟨t, 0, none⟩), .int .i64 s] w fun e w' => e = .returned (.tuple #[]) ∧ Tr w0 w' (wide O w w') t (M.kx L s) ∧ Fr O w w' := by
  obtain ⟨v, h1, h2, _⟩ := h.ex
  obtain ⟨x, cap, rfl, _, _, h3⟩ := h2.els
  refine (rflush_at w t _ cap x L (cellOf h1) (frozenOf h1 0) h3 rfl (by have := h.gd.len; omega) s).mono ?_
  rintro e w' ⟨rfl, v, w1, q1, q2, rfl⟩
  exact ⟨rfl, Tb_swap h q2 q1 (h.gd.kx s)⟩
end Go.Proofs.Ytmmjmloaefcmmaa
