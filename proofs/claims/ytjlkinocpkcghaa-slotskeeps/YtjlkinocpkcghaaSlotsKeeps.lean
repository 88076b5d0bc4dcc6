/- SlotsKeeps: what was put is there until it is taken, whatever is put, taken and refused beside it, and no other slot is told as full; no condition. -/
import Derived.Test.YtjlkinocpkcghaaKeep
import Derived.Deep.Cut
import Derived.Deep.DeepCutAuto
import Derived.Test.YtjlkinocpkcghaaArgs
import Derived.ProofKit
import Derived.OpenShut
import Derived.ShutString
import Derived.ChangeOld
import Derived.Below
import Derived.Deep.Slices
namespace Go.Proofs.Ytjlkinocpkcghaa.slotsKeeps
open Go.ChangeShapes Go.WideShapes Go.ChangeAt Go.RowKit
set_option linter.unusedVariables false

theorem own : ownKnob Try.prog.godebug = none := by kernel_rfl
theorem laidOut : laidOutB Try.prog = true := by kernel_rfl

theorem startHold {w w2 : World} {p : Nat} (g : w.grownBy w2 none) (h : SAt w2 p 0 (fun i => w.heap.size ≤ i ∧ i < w2.heap.size) (fun _ => none)) :
    ∃ w3, w2.alloc (.map #[] 0) = w3 ∧ Hold w w3 (fun i => w.heap.size ≤ i ∧ i < w2.heap.size) p 0 w.heap.size w2.heap.size 0 (M.nodes 0) (.slice none 0 0) (M.allTo 0) (fun _ _ => none) :=
  ⟨_, rfl, h.kept (gbAlloc _ _ _), Lst.nil _ _, fun k e => (nomatch e), fun i hi => ⟨hi.1, by simp; omega, by omega⟩, CMap.made w2, g.size, Nat.le_refl _, by simp; have := g.size; omega, gbEnd (gbTrans g (gbAlloc _ _ _)), Good.none⟩

theorem shl2 (j : Nat) (h : j < 4) : ∃ m : Nat, Hid (m = 2 ^ (j + 1)) ∧ wrap64 (2 * 2 ^ j) = (m : Int) ∧ m ≤ 16 := by
  have : j = 0 ∨ j = 1 ∨ j = 2 ∨ j = 3 := by omega
  rcases this with rfl | rfl | rfl | rfl
  · exact ⟨2, hideIt rfl, by decide +kernel, by decide⟩
  · exact ⟨4, hideIt rfl, by decide +kernel, by decide⟩
  · exact ⟨8, hideIt rfl, by decide +kernel, by decide⟩
  · exact ⟨16, hideIt rfl, by decide +kernel, by decide⟩

/-- A block of ten cells: an act. -/
structure OBox (w : World) (x : Nat) (k n a m : Int) (c : C) : Prop where
  at0 : w.cell? ⟨x, 0, none⟩ = some (.int .i64 k)
  at1 : w.cell? ⟨x, 1, none⟩ = some (.int .i64 n)
  at2 : w.cell? ⟨x, 2, none⟩ = some (.int .i64 a)
  at3 : w.cell? ⟨x, 3, none⟩ = some (.int .i64 m)
  at4 : w.cell? ⟨x, 4, none⟩ = some (.int .i64 c.k)
  at5 : w.cell? ⟨x, 5, none⟩ = some (.int .i64 c.o)
  at6 : w.cell? ⟨x, 6, none⟩ = some (.int .i64 c.r)
  at7 : w.cell? ⟨x, 7, none⟩ = some (.int .u64 c.b)
  at8 : w.cell? ⟨x, 8, none⟩ = some (.int .u64 c.g)
  at9 : w.cell? ⟨x, 9, none⟩ = some (.int .i64 c.n)
  lt : x < w.heap.size
theorem OBox.fr {O : Nat → Prop} {w w' : World} {x : Nat} {k n a m : Int} {c : C} (h : OBox w x k n a m c) (g : Fr O w w') (ho : ¬ O x) : OBox w' x k n a m c :=
  ⟨g.cell h.at0 ho, g.cell h.at1 ho, g.cell h.at2 ho, g.cell h.at3 ho, g.cell h.at4 ho, g.cell h.at5 ho, g.cell h.at6 ho, g.cell h.at7 ho, g.cell h.at8 ho, g.cell h.at9 ho, Nat.lt_of_lt_of_le h.lt g.size⟩
theorem OBox.kept {w w' : World} {x : Nat} {k n a m : Int} {c : C} (h : OBox w x k n a m c) (g : w.grownBy w' none) : OBox w' x k n a m c := h.fr (O := fun _ => False) (Fr.grown g) (fun e => e)
theorem oboxNew (w : World) (k n a m : Int) (c : C) : ∃ W, w.alloc (.cells #[.int .i64 k, .int .i64 n, .int .i64 a, .int .i64 m, .int .i64 c.k, .int .i64 c.o, .int .i64 c.r, .int .u64 c.b, .int .u64 c.g, .int .i64 c.n] 35) = W ∧ OBox W w.heap.size k n a m c ∧ w.grownBy W none :=
  ⟨_, rfl, ⟨by simp, by simp, by simp, by simp, by simp, by simp, by simp, by simp, by simp, by simp, by simp⟩, gbAlloc _ _ _⟩
theorem Lst.rowAt {w : World} {B g n cap : Nat} {L : List (Int × Int)} (h : Lst w B (.slice (some ⟨g, 0, none⟩) n cap) L) : Row w ⟨g, 0, none⟩ L ∧ L.length = n := by
  rcases h.form with ⟨e, _⟩ | ⟨g', cap', e, _, _, _, _, hr⟩
  · cases e
  · cases e; exact ⟨hr, rfl⟩

set_option maxRecDepth 10000 in
set_option maxHeartbeats 4000000 in
theorem core (xo : Option Addr) (len cap : Nat) (w : World) (HX : Hid (∀ i, i < len → ∃ x k n s m c, xo = some x ∧ El10 w (x.add (i * 10)) k n s m c ∧ Op10 n s c)) :
    Calls Try.prog 4 #[.slice xo len cap] w fun e w' => e = .returned (.bool true) ∧ Below w.heap.size w w' := by
  have hmm := @run_makeMap Try.prog
  go_enter Try.func4, Try.ntmps4
  go_wp2_with fail
  refine (works_any _).mono ?_
  rintro _ w1 ⟨rfl, g1⟩
  go_wp2_with fail
  refine (new_is _).mono ?_
  rintro _ w2 ⟨p, rfl, A2, g2⟩
  have G2 := gbTrans g1 g2
  have A2' := A2.mono (O' := fun i => w.heap.size ≤ i ∧ i < w2.heap.size) (fun i hi => ⟨Nat.le_trans g1.size hi.1, hi.2⟩) (Nat.le_refl _)
  obtain ⟨w3, hw3, H3⟩ := startHold G2 A2'
  have HH3 := hideIt H3
  clear A2 A2' H3
  go_wp2
  clear hw3 hmm
  obtain ⟨mb, hmb⟩ : ∃ mb, mb = w2.heap.size := ⟨_, rfl⟩
  rw [← hmb] at HH3 ⊢
  clear hmb
  go_loopg [5, 6] 4 (fun y all id wr => ∃ (j : Nat) (O : Nat → Prop), j + y = 4 ∧ id = .int .i64 j ∧ Hid (Hold w wr O p j w.heap.size mb 0 (M.nodes j) all (M.allTo j) (fun _ _ => none)))
  case atStart => exact ⟨0, _, by omega, rfl, HH3⟩
  case round =>
    obtain ⟨j, O, hj, rfl, HH⟩ := hrel
    by_cases hj4 : j < 4
    · have hj' : (j : Int) < 4 := by omega
      obtain ⟨r1, hr1, HR1⟩ : ∃ r1 : Nat, (1 : Int) + (j : Int) = (r1 : Int) ∧ Hid (r1 = j + 1) := ⟨j + 1, by omega, hideIt rfl⟩
      have HA := add_is HH.out.st HH.out.gd j r1 0 (i64_of (by omega) (by omega)) (by omega) (by rw [HR1.out]; exact M.nodes_add j hj4)
      have HA2 := hideIt HA
      clear HA
      go_wp2_with fail
      refine HA2.out.mono ?_
      rintro _ w4 ⟨rfl, A4, F4⟩
      have H4 : Hold w w4 (fun i => O i ∨ (i = wr.heap.size ∧ i < w4.heap.size)) p (j + 1) w.heap.size mb 0 (M.nodes (j + 1)) u5 (M.allTo j) (fun _ _ => none) := HH.out.store F4 (by have := A4; rw [HR1.out] at this; exact this) (M.nodes_good (j + 1)) (fun i hi => by rcases hi with e | ⟨e1, e2⟩; exact .inl e; exact .inr ⟨by omega, e2⟩)
      obtain ⟨O2, hO2⟩ : ∃ O2 : Nat → Prop, O2 = fun i => O i ∨ (i = wr.heap.size ∧ i < w4.heap.size) := ⟨_, rfl⟩
      rw [← hO2] at H4
      have HH4 := hideIt H4
      clear A4 F4 H4 hO2 HA2 hr1
      obtain ⟨m, HM, hsh, hm16⟩ := shl2 j hj4
      obtain ⟨Gk, hGk⟩ : ∃ Gk, Gk = gk := ⟨_, rfl⟩
      subst hGk
      go_wp2
      go_loopg [5, 7] m (fun y all i wx => ∃ c : Nat, c + y = m ∧ i = .int .i64 c ∧ Hid (Hold w wx O2 p (j + 1) w.heap.size mb 0 (M.nodes (j + 1)) all (M.allTo j ++ M.rowAll j c) (fun _ _ => none)))
      case atStart => exact ⟨0, by omega, rfl, hideIt (by have := HH4.out; rw [show M.allTo j ++ M.rowAll j 0 = M.allTo j from List.append_nil _]; exact this)⟩
      case round =>
        obtain ⟨c, hc, rfl, HC⟩ := hrel
        by_cases hcm : c < m
        · have hcm' : (c : Int) < (m : Int) := by omega
          have HO : Hid (Lst (wr.alloc (.cells #[.int .i64 j, .int .i64 c] 30)) w.heap.size u5 (M.allTo j ++ M.rowAll j c)) := hideIt (HC.out.ls.kept (gbAlloc _ _ _))
          have HR : Hid (Row (wr.alloc (.cells #[.int .i64 j, .int .i64 c] 30)) ⟨wr.heap.size, 0, none⟩ [((j : Int), (c : Int))]) := hideIt (rowOne wr j c)
          have hln : Hid ((M.allTo j ++ M.rowAll j c).length + 1 ≤ 1000000) := hideIt (by
            rw [List.length_append, M.rowAll_len]; have := M.allTo_len j (by omega); omega)
          have hsz : w.heap.size ≤ wr.heap.size := HC.out.size
          go_wp2_with (at_builtin; refine wpList_append_slot_at rfl (.tmp 40) (.tmp 44) rfl w.heap.size _ _ rfl HO.out ⟨wr.heap.size, 0, none⟩ 1 1 [((j : Int), (c : Int))] rfl rfl HR.out hln.out (by simp; omega) ?_; intro v3 w5 ho3 hg3 hloc; have ho3 : Hid (Lst w5 w.heap.size v3 ((M.allTo j ++ M.rowAll j c) ++ [((j : Int), (c : Int))])) := ho3; have hg3 : Hid ((wr.alloc (.cells #[.int .i64 j, .int .i64 c] 30)).grownBy w5 u5.ownBlock) := hideIt hg3; have hloc := hideIt hloc)
          go_roundg (gk - 1)
          case rel => exact ⟨c + 1, by omega, by go_num, hideIt (by rw [M.rowAll_succ, ← List.append_assoc]; exact (HC.out.kept (gbAlloc _ _ _)).list hg3.out ho3.out hloc.out)⟩
          case measure => omega
        · have hcm' : ¬ (c : Int) < (m : Int) := by omega
          obtain rfl : c = m := by omega
          go_wp2
          go_roundg (Gk - 1)
          case rel => exact ⟨j + 1, O2, by omega, by go_num, hideIt (by have := HC.out; rw [HM.out] at this; exact this)⟩
          case measure => omega
    · have hj' : ¬ (j : Int) < 4 := by omega
      obtain rfl : j = 4 := by omega
      have hl30 : (M.allTo 4).length = 30 := by decide
      rcases HH.out.ls.form with ⟨_, h0⟩ | ⟨gl, capl, hv, _, _, _, hcapl, _⟩
      · rw [h0] at hl30; cases hl30
      rw [hl30] at hv
      subst hv
      have HH5 : Hid (Hold w wr O p 4 w.heap.size mb 0 (M.nodes 4) (.slice (some ⟨gl, 0, none⟩) 30 capl) (M.allTo 4) (M.inF (M.nodes 4))) := hideIt (by
        have h := HH.out
        exact ⟨h.st, h.ls, h.lo, h.ob, h.mp.congr (fun a b => (M.nodes_in a b).symm), h.mlo, h.blo, h.bhi, h.bel, h.gd⟩)
      have HF5 : Hid (M.Four (M.nodes 4)) := hideIt M.nodes_four
      clear HH hj hj'
      generalize M.nodes 4 = S5 at HH5 HF5
      obtain ⟨w5, hw5⟩ : ∃ w5, w5 = wr := ⟨_, rfl⟩
      subst hw5
      go_wp2
      go_loopg [8] 60 (fun y i wr => ∃ (j : Nat) (S : St), j + y = 60 ∧ i = .int .i64 j ∧ Hid (M.Four S) ∧ Hid (Hold w wr O p 4 w.heap.size mb j S (.slice (some ⟨gl, 0, none⟩) 30 capl) (M.allTo 4) (M.inF S)))
      case atStart => exact ⟨0, S5, by omega, rfl, HF5, HH5⟩
      case round =>
        obtain ⟨j, S, hj, rfl, HF, HH⟩ := hrel
        by_cases hlt : j < len ∧ j < 60
        · obtain ⟨hlt, hlt2⟩ := hlt
          have hlt' : (j : Int) < (len : Int) := by omega
          have hlt2' : (j : Int) < 60 := by omega
          obtain ⟨x, k0, n, s, m, ⟨k, o, r, b, g, t⟩, rfl, E0, ⟨hn, hs, hb, hg⟩⟩ := HX.out j hlt
          have E := E0.low HH.out.bel
          obtain ⟨e0, e1, e2, e3, e4, e5, e6, e7, e8, e9⟩ := E
          simp only at e4 e5 e6 e7 e8 e9 hb hg
          have HN : Hid (I64 n ∧ I64 s ∧ 0 ≤ b ∧ 0 ≤ g) := hideIt ⟨hn, hs, hb, hg⟩
          clear E0 hn hs hb hg
          go_upto_region 19 with fail
          obtain ⟨W6, hW6, X6, g6⟩ := oboxNew wr k0 n s m ⟨k, o, r, b, g, t⟩
          simp only at hW6
          rw [hW6]
          clear hW6 e0 e1 e2 e3 e4 e5 e6 e7 e8 e9
          have H6 := hideIt (HH.out.kept g6)
          obtain ⟨⟨k1, o1, r1, b1, g1', t1⟩, hwant⟩ : ∃ c1, (M.inF S n s).getD C.zero = c1 := ⟨_, rfl⟩
          obtain ⟨fb, hfb⟩ : ∃ fb, (M.inF S n s).isSome = fb := ⟨_, rfl⟩
          have hl2 := H6.out.mp.look2 HN.out.1 HN.out.2.1
          rw [hwant, hfb] at hl2
          have HW := hideIt hwant
          have HB := hideIt hfb
          have x1 := X6.at1
          have x2 := X6.at2
          clear hwant hfb
          go_upto_region 20 with fail
          obtain ⟨W7, hW7, Y7, g7⟩ := boxNew W6 ⟨k1, o1, r1, b1, g1', t1⟩
          simp only at hW7
          rw [hW7]
          clear hW7 hl2 x1 x2
          have H7 := hideIt (H6.out.kept g7)
          have X7 := hideIt (X6.kept g7)
          clear Y7 X6 H6
          have x0 := X7.out.at0
          go_upto_if 69 with fail
          clear x0
          go_cut [13] (fun _ wc => ∃ S2, Hid (M.Four S2) ∧ Hid (Hold w wc O p 4 w.heap.size mb (j + 1) S2 (.slice (some ⟨gl, 0, none⟩) 30 capl) (M.allTo 4) (M.inF S2)))
          case first =>
            have hxO : Hid (¬ O wr.heap.size) := hideIt (fun e => Nat.lt_irrefl _ (HH.out.ob _ e).2.1)
            have hxm : Hid (wr.heap.size ≠ mb) := hideIt (fun e => by have := HH.out.mp.lt; omega)
            cases hk3 : (k0 == 3)
            · obtain ⟨pe, hpe⟩ : ∃ pe, M.putE S n s ⟨k, o, r, b, g, t⟩ = pe := ⟨_, rfl⟩
              have HP := hideIt (put_is H7.out.st H7.out.gd n s k o r b g t pe HN.out.1 HN.out.2.2.1 HN.out.2.2.2 hpe)
              have HPE := hideIt hpe
              clear hpe
              have x1 := X7.out.at1
              have x2 := X7.out.at2
              have x4 := X7.out.at4
              have x5 := X7.out.at5
              have x6 := X7.out.at6
              have x7 := X7.out.at7
              have x8 := X7.out.at8
              have x9 := X7.out.at9
              simp only at x4 x5 x6 x7 x8 x9
              go_wp2_with fail
              refine HP.out.mono ?_
              rintro _ w8 ⟨rfl, A8, F8⟩
              have H8 := hideIt (H7.out.store F8 A8 (H7.out.gd.put n s _) (fun i hi => .inl hi))
              have X8 := hideIt (X7.out.fr F8 hxO.out)
              clear x1 x2 x4 x5 x6 x7 x8 x9 HP A8 F8 X7 H7
              cases hz : (pe == 0)
              · have hz2 : Hid (pe ≠ 0) := hideIt (by simpa using hz)
                go_wp2
                go_meet
                exact ⟨S, HF, hideIt (by
                  have h := H8.out
                  rw [M.putS_no (by rw [HPE.out]; exact hz2.out)] at h
                  exact ⟨h.st, h.ls, h.lo, h.ob, h.mp.mono (by omega), h.mlo, h.blo, h.bhi, h.bel, h.gd⟩)⟩
              · obtain rfl : pe = 0 := by simpa using hz
                have hfb : fb = false := by rw [← HB.out, M.inF_full HPE.out]; rfl
                subst hfb
                have x1 := X8.out.at1
                have x2 := X8.out.at2
                have x4 := X8.out.at4
                have x5 := X8.out.at5
                have x6 := X8.out.at6
                have x7 := X8.out.at7
                have x8 := X8.out.at8
                have x9 := X8.out.at9
                simp only at x4 x5 x6 x7 x8 x9
                clear hz
                go_wp2_with (at_mapUpdate; refine wpList_put_cap rfl _ _ _ rfl mb j (M.inF S) n s ⟨k, o, r, b, g, t⟩ rfl rfl rfl H8.out.mp HN.out.1 HN.out.2.1 (by omega) ?_; intro w9 hM9 hg9; have hM9 := hideIt hM9; have hg9 := hideIt hg9)
                go_meet
                exact ⟨_, hideIt (HF.out.put n s ⟨k, o, r, b, g, t⟩), hideIt (H8.out.map hg9.out (hM9.out.congr (fun a b => (M.inF_put HPE.out a b).symm)))⟩
            · obtain ⟨te, hte⟩ : ∃ te, M.takeE S n s = te := ⟨_, rfl⟩
              have htc : M.takeC S n s = ⟨k1, o1, r1, b1, g1', t1⟩ := by rw [M.takeC_is H7.out.gd]; exact HW.out
              have HT := hideIt (take_is H7.out.st H7.out.gd n s k1 o1 r1 b1 g1' t1 te HN.out.1 htc hte)
              have htb : (te == 0) = fb := by rw [← hte, M.takeE_is]; exact HB.out
              clear hte htc
              have x1 := X7.out.at1
              have x2 := X7.out.at2
              go_wp2_with fail
              refine HT.out.mono ?_
              rintro _ w8 ⟨rfl, A8, F8⟩
              have H8 := hideIt (H7.out.store F8 A8 (H7.out.gd.take n s) (fun i hi => .inl hi))
              have X8 := hideIt (X7.out.fr F8 hxO.out)
              clear x1 x2 HT A8 F8 X7 H7
              go_upto_region 22 with fail
              obtain ⟨W9, hW9, Y9, g9⟩ := boxNew w8 ⟨k1, o1, r1, b1, g1', t1⟩
              simp only at hW9
              rw [hW9]
              clear hW9
              have X9 := X8.out.kept g9
              have H9 := hideIt (H8.out.kept g9)
              have x1 : ∀ y : Gr W9, y.w.cell? ⟨wr.heap.size, 1, none⟩ = some (.int .i64 n) := fun y => (X9.kept y.g).at1
              have x2 : ∀ y : Gr W9, y.w.cell? ⟨wr.heap.size, 2, none⟩ = some (.int .i64 s) := fun y => (X9.kept y.g).at2
              obtain ⟨y0, y1, y2, y3, y4, y5⟩ := Y9.all
              simp only at y0 y1 y2 y3 y4 y5
              have hl : ∀ y : Gr W9, (Instr.lookup 49 (.map (some mb)) (sv n s) false).run Try.prog y.w = .ok (cv ⟨k1, o1, r1, b1, g1', t1⟩) y.w := fun y => by
                have := (H9.out.kept y.g).mp.look HN.out.1 HN.out.2.1
                rw [HW.out] at this; exact this
              have he : M.eq ⟨k1, o1, r1, b1, g1', t1⟩ ⟨k1, o1, r1, b1, g1', t1⟩ = true := M.eq_refl _
              have qe := eqGuardCap
              have qn := run_neq_cap
              have X9' := hideIt X9
              clear X9 Y9
              cases fb
              · refine wp_region_grown (by kernel_rfl) (by kernel_rfl) fun _ => ?_
                repeat (go_big_quiet_step (fail))
                refine wpQuiet_nil ?_
                rintro w10 ⟨⟨_, g10⟩, rfl⟩
                clear x1 x2 y0 y1 y2 y3 y4 y5 hl
                have X10 := X9'.out.kept g10
                have x1 := X10.at1
                have x2 := X10.at2
                have H10 := hideIt (H9.out.kept g10)
                clear X10
                go_wp2_with (at_delete; refine wpList_del_cap rfl _ _ rfl mb j (M.inF S) n s rfl rfl H10.out.mp HN.out.1 HN.out.2.1 ?_; intro w11 hM11 hg11; have hM11 := hideIt hM11; have hg11 := hideIt hg11)
                go_meet
                exact ⟨_, hideIt (HF.out.take n s), hideIt (H10.out.map hg11.out ((hM11.out.congr (fun a b => (M.inF_take S n s a b).symm)).mono (by omega)))⟩
              · refine wp_region_grown (by kernel_rfl) (by kernel_rfl) fun _ => ?_
                repeat (go_big_quiet_step (fail))
                refine wpQuiet_nil ?_
                rintro w10 ⟨⟨_, g10⟩, rfl⟩
                clear x1 x2 y0 y1 y2 y3 y4 y5 hl
                have X10 := X9'.out.kept g10
                have x1 := X10.at1
                have x2 := X10.at2
                have H10 := hideIt (H9.out.kept g10)
                clear X10
                go_wp2_with (at_delete; refine wpList_del_cap rfl _ _ rfl mb j (M.inF S) n s rfl rfl H10.out.mp HN.out.1 HN.out.2.1 ?_; intro w11 hM11 hg11; have hM11 := hideIt hM11; have hg11 := hideIt hg11)
                go_meet
                exact ⟨_, hideIt (HF.out.take n s), hideIt (H10.out.map hg11.out ((hM11.out.congr (fun a b => (M.inF_take S n s a b).symm)).mono (by omega)))⟩
          case rest =>
            obtain ⟨S2, HF2, HH2⟩ := hcut
            have HQ : Hid (∃ Q : Prop, Q) := hideIt ⟨True, trivial⟩
            clear HQ
            go_wp2
            obtain ⟨Gk, hGk⟩ : ∃ Gk, Gk = gk := ⟨_, rfl⟩
            subst hGk
            go_loopg [14, 15] 30 (fun y nn kk wx => ∃ c t : Nat, c + y = 30 ∧ kk = .int .i64 c ∧ nn = .int .i64 t ∧ Hid (t = M.nOf S2 c) ∧ wc.grownBy wx none)
            case atStart => exact ⟨0, 0, by omega, rfl, rfl, hideIt (by simp [M.nOf]), gbRefl _ _⟩
            case round =>
              obtain ⟨c, t2, hc, rfl, rfl, HT, gx⟩ := hrel
              by_cases hc30 : c < 30
              · have hc' : (c : Int) < 30 := by omega
                have Hx := hideIt (HH2.out.kept gx)
                obtain ⟨hrow, hlen⟩ := Lst.rowAt Hx.out.ls
                obtain ⟨⟨n1, i1⟩, hp⟩ : ∃ q, (M.allTo 4)[c]? = some q := ⟨_, List.getElem?_eq_getElem (by rw [hlen]; exact hc30)⟩
                obtain ⟨ht1, hn1, hi1⟩ := M.all_there HF2.out (List.mem_of_getElem? hp)
                have E := hrow c _ hp
                rw [Addr.add_lit, Nat.zero_add] at E
                obtain ⟨a0, a1⟩ := E
                simp only at a0 a1 ht1 hn1 hi1
                obtain ⟨⟨k2, o2, r2, b2, g2', t2'⟩, hgc⟩ : ∃ c2, M.getC S2 n1 i1 = c2 := ⟨_, rfl⟩
                have HGt := hideIt (get_is Hx.out.st Hx.out.gd n1 i1 k2 o2 r2 b2 g2' t2' 0 hn1 hgc (by unfold M.getE; rw [ht1]; rfl))
                have HNX : Hid (M.nOf S2 (c + 1) = t2 + (if (k2 != 0) then 1 else 0)) := hideIt (by rw [M.nOf_succ hp, HT.out]; simp only [hgc])
                have ht30 : t2 ≤ 30 := by have := M.nOf_le S2 c; have := HT.out; omega
                have HL : Hid (∀ y : World, wr.grownBy y none → (Instr.lookup 49 (.map (some mb)) (sv n1 i1) true).run Try.prog y = .ok (.tuple #[cv ⟨k2, o2, r2, b2, g2', t2'⟩, .bool (k2 != 0)]) y) := hideIt (fun y gy => by
                  have := (Hx.out.kept gy).mp.look2 hn1 hi1
                  rw [M.inF_getD Hx.out.gd, M.inF_is, hgc] at this
                  exact this)
                have HA := hideIt a0
                have HB1 := hideIt a1
                clear hrow hlen hp ht1 hn1 hi1 hgc
                go_wp2_with fail
                refine HGt.out.mono ?_
                rintro _ w8 ⟨rfl, g8⟩
                clear HGt
                go_upto_region 34 with fail
                obtain ⟨W9, hW9, Y9, g9⟩ := boxNew w8 ⟨k2, o2, r2, b2, g2', t2'⟩
                simp only at hW9
                rw [hW9]
                clear hW9 a0 a1
                have G9 := gbTrans g8 g9
                have a0 := G9.cell HA.out (by simp)
                have a1 := G9.cell HB1.out (by simp)
                have hl := HL.out W9 G9
                go_upto_region 35 with fail
                obtain ⟨W10, hW10, Z10, g10⟩ := boxNew W9 ⟨k2, o2, r2, b2, g2', t2'⟩
                simp only at hW10
                rw [hW10]
                clear hW10 a0 a1 hl
                have Y10 := Y9.kept g10
                obtain ⟨y0, y1, y2, y3, y4, y5, _, _⟩ := Y10
                obtain ⟨z0, z1, z2, z3, z4, z5, _, _⟩ := Z10
                simp only at y0 y1 y2 y3 y4 y5 z0 z1 z2 z3 z4 z5
                have he : M.eq ⟨k2, o2, r2, b2, g2', t2'⟩ ⟨k2, o2, r2, b2, g2', t2'⟩ = true := M.eq_refl _
                have qe := eqGuardCap
                have qn := run_neq_cap
                have G10 := gbTrans gx (gbTrans G9 g10)
                cases hz : (k2 != 0)
                · go_wp2
                  go_roundg (gk - 1)
                  case rel => exact ⟨c + 1, t2, by omega, by go_num, rfl, hideIt (by rw [HNX.out, hz]; rfl), G10⟩
                  case measure => omega
                · go_wp2
                  go_roundg (gk - 1)
                  case rel => exact ⟨c + 1, t2 + 1, by omega, by go_num, by go_num, hideIt (by rw [HNX.out, hz]; rfl), G10⟩
                  case measure => omega
              · have hc' : ¬ (c : Int) < 30 := by omega
                obtain rfl : c = 30 := by omega
                have Hx := hideIt (HH2.out.kept gx)
                have HLN : Hid ((M.full S2).length = t2) := hideIt (by
                  rw [HT.out, ← M.nOf_all Hx.out.gd HF2.out, hl30])
                go_wp2_with fail
                refine (full_is Hx.out.st).mono ?_
                rintro _ w8 ⟨v, rfl, hL, g8⟩
                have hv : ∃ x cap, v = .slice x t2 cap := by
                  rcases hL.form with ⟨rfl, h0⟩ | ⟨g, cap, rfl, _⟩
                  · have : t2 = 0 := by rw [← HLN.out, h0]; rfl
                    subst this; exact ⟨_, _, rfl⟩
                  · rw [HLN.out]; exact ⟨_, _, rfl⟩
                obtain ⟨x8, cap8, rfl⟩ := hv
                have ht30 : t2 ≤ 30 := by have := M.nOf_le S2 30; have := HT.out; omega
                clear hL
                go_wp2
                go_roundg (Gk - 1)
                case rel => exact ⟨j + 1, S2, by omega, by go_num, HF2, hideIt (Hx.out.kept g8)⟩
                case measure => omega
        · by_cases h1 : j < len
          · have h1' : (j : Int) < (len : Int) := by omega
            have h2' : ¬ (j : Int) < 60 := by omega
            go_wp2
            go_ret
            exact ⟨rfl, HH.out.bel⟩
          · have h1' : ¬ (j : Int) < (len : Int) := by omega
            go_wp2
            go_ret
            exact ⟨rfl, HH.out.bel⟩

theorem walk (xo : Option Addr) (len cap : Nat) (w : World) (hx : ∀ i, i < len → ∃ x k n s m c, xo = some x ∧ El10 w (x.add (i * 10)) k n s m c ∧ Op10 n s c) :
    Calls Try.prog 4 #[.slice xo len cap] w fun e w' => e = .returned (.bool true) ∧ Below w.heap.size w w' := core xo len cap w (hideIt hx)

set_option maxRecDepth 100000 in
theorem lifted (os : Os) (started : os.Started) (H : Type) (enc : TypeId × Value → H) :
    ReturnsInHanded {} Try.checked os 4 .any (Rows.slotsKeepsSpec.pre6 enc Try.prog Try.f4 Rows.slotsKeepsRow.domain false) (Rows.slotsKeepsSpec.post enc Try.prog Try.f4 false true false false) := by
  refine returnsInHanded_of_change (C := Try.checked) own started (by kernel_rfl) Try.func4
    (ChangeSpec.witness6 (enc := enc) (C := Try.checked) false ⟨#[], #[.slice none 0 0], []⟩ 8 (by kernel_rfl) (by kernel_rfl) (by kernel_rfl) (by kernel_rfl)) ?_
  intro W base args ds gs before hval0 hW hcnd _
  have hval : ∀ (j : Nat) t v, Try.f4.params[j]? = some t → args[j]? = some v → Value.okWide Try.prog W .any base t v := hval0
  have hW' := hW
  obtain ⟨p, q, hA0, hV, rfl, hfz, hnd⟩ := hW
  have hA : DataW.TrodAll enc Try.prog W 0 (fun _ => true) true Try.f4.params.toList args.toList ds p := hA0
  rw [Try.params4] at hA hval
  obtain ⟨v0, vs0, d0, ds0, p0, q0, hargs, rfl, rfl, h0, r0⟩ := trodAll_cons hA
  obtain ⟨rfl, rfl, rfl⟩ := trodAll_nil r0
  obtain rfl : args = #[v0] := by cases args; simp_all
  obtain ⟨rfl, rfl⟩ := trodVars_none hV
  obtain ⟨x0, len0, cap0, rfl⟩ := okWide_slice Try.underlying22 (hval 0 22 v0 rfl rfl)
  have hx0 := opsArg h0
  have k0 := h0
  have lt0 : ∀ x ∈ p0, x.block < W.heap.size := by obtain ⟨m, hm⟩ := k0; exact DataW.trod_lt m _ _ _ hm
  clear hA0 hval0
  refine (walk x0 len0 cap0 W hx0).mono fun e W' ⟨he, bel⟩ => ?_
  subst he
  exact ⟨_, rfl, _, _, _, [], _, [], hW', trodAll_mk1 (shut_bool Try.underlying4 _), (trodAll_cons_mk (Below.trod laidOut (by kernel_rfl) (of_decide_eq_true (by kernel_rfl)) k0 bel lt0) trodAll_mk0), rfl, bel.frame _, fun h => by cases h⟩

theorem over : Rows.slotsKeepsRow.holds Try.pinned (OpenSpec.ofChange Rows.slotsKeepsSpec) :=
  OpenClaim.holds_of_wide 4 Try.f4 rfl rfl rfl rfl rfl rfl rfl ⟨rfl, rfl, rfl, rfl, rfl⟩ rfl rfl rfl rfl rfl (by kernel_rfl) Try.func4 (by kernel_rfl)
    (of_decide_eq_true (by kernel_rfl)) (by unfold Func.isWrapper; first | (rw [if_pos (by decide +kernel)]; kernel_rfl) | (rw [if_neg (by decide +kernel)]; exact ⟨rfl, rfl⟩))
    (fun os started H enc _ => lifted os started H enc)

theorem proved : Rows.SlotsKeepsSaid := over
end Go.Proofs.Ytjlkinocpkcghaa.slotsKeeps
namespace Go.Proofs.Ytjlkinocpkcghaa
theorem slotsKeeps_holds : Rows.SlotsKeepsSaid := slotsKeeps.proved
#print axioms slotsKeeps_holds
end Go.Proofs.Ytjlkinocpkcghaa
