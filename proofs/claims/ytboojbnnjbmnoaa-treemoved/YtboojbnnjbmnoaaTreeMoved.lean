/- TreeMoved: whatever slots come, as roots and as children, and whichever of them is moved, to whichever place: it takes what comes of it, and its place among its parent's children, with it; nothing else changes; moved back, its kin is as it was; no condition. -/
import Derived.Test.YtboojbnnjbmnoaaMoved
import Derived.Deep.Cut
import Derived.Deep.DeepCutAuto
import Derived.Deep.RegionHeld3
import Derived.Test.YtboojbnnjbmnoaaArgs
import Derived.ProofKit
import Derived.OpenShut
import Derived.ShutString
import Derived.ChangeOld
import Derived.Below
import Derived.Deep.Slices
namespace Go.Proofs.Ytboojbnnjbmnoaa.treeMoved
open Go.ChangeShapes Go.WideShapes Go.ChangeAt Go.RowKit
set_option linter.unusedVariables false

theorem own : ownKnob Try.prog.godebug = none := by kernel_rfl
theorem laidOut : laidOutB Try.prog = true := by kernel_rfl

set_option maxRecDepth 10000 in
set_option maxHeartbeats 4000000 in
theorem core (xo : Option Addr) (len cap : Nat) (at0 to0 : Int) (w : World) (HX : Hid (∀ i, i < len → ∃ x k m n s t, xo = some x ∧ El5 w (x.add (i * 5)) k m n s t ∧ Op5 m n s t)) :
    Calls Try.prog 6 #[.slice xo len cap, .int .i64 at0, .int .i64 to0] w fun e w' => e = .returned (.bool true) ∧ w.grownBy w' none := by
  have qe := eqGuardSlots
  have qq := run_eql_slots
  have qn := run_neq_slots
  go_enter Try.func6, Try.ntmps6
  go_wp2_with fail
  refine (works_is _).mono ?_
  rintro _ w1 ⟨rfl, g1⟩
  go_wp2_with fail
  refine (new_own g1).mono ?_
  rintro _ w2 ⟨p, O, rfl, A2, _, _⟩
  have HG2 : Hid (G9 w w2 p (.slice none 0 0) .nil []) := hideIt ⟨⟨O, A2, fun g e => (nomatch e)⟩, Lst.nil _ _, by simp, by simp [Fo.pre]⟩
  clear A2 g1
  go_wp2
  go_loopg [8, 9] 40 (fun y vin i wr => ∃ (j : Nat) (f : Fo) (I : List (Int × Int)), j + y = 40 ∧ i = .int .i64 j ∧ Hid (I.length ≤ j) ∧ Hid (G9 w wr p vin f I))
  case atStart => exact ⟨0, .nil, [], by omega, rfl, hideIt (by simp), HG2⟩
  case round =>
    obtain ⟨j, f, I, hj, rfl, HL, HG⟩ := hrel
    by_cases hlt : j < len ∧ j < 40
    · obtain ⟨hlt, hlt2⟩ := hlt
      have hlt' : (j : Int) < (len : Int) := by omega
      have hlt2' : (j : Int) < 40 := by omega
      obtain ⟨x, k, a, b, c, d, rfl, E0, ⟨ia, ib, ic, id⟩⟩ := HX.out j hlt
      obtain ⟨e0, e1, e2, e3, e4⟩ := E0.kept HG.out.gr
      clear E0
      go_upto_region 9 with fail
      obtain ⟨W, hW, BX, gW⟩ := oboxNew wr k a b c d
      rw [hW]
      clear hW e0 e1 e2 e3 e4
      obtain ⟨O, h1, h2⟩ := HG.out.own
      have hxO : ¬ O wr.heap.size := fun e => absurd (h1.lo _ e).2 (Nat.lt_irrefl _)
      have H1 := hideIt (h1.kept gW)
      have H2 := hideIt h2
      have HLs := hideIt (HG.out.lst.kept gW)
      have hfl : Hid (f.len ≤ 1000) := hideIt (by rw [HG.out.len]; have := HL.out; omega)
      have HND := hideIt HG.out.nd
      have HME := hideIt HG.out.mem
      have HGW := hideIt (HG.out.kept gW)
      have b0 := BX.at0
      have b1 := BX.at1
      have b2 := BX.at2
      have b3 := BX.at3
      have b4 := BX.at4
      clear h1 h2
      have hvlt : ∀ g, u8.ownBlock = some g → g < wr.heap.size := fun g hg => (HG.out.lst.lt g hg).2
      by_cases k0 : k = 0
      · have hk0 : (k == 0) = true := by simp [k0]
        have hk1 : (k == 1) = false := by simp [k0]
        clear k0
        cases hs : f.has (a, b) with
        | true =>
          have HE := hideIt (rootE_yes hs)
          go_wp2_with fail
          refine (root_own H1.out a b 4 ia ib hfl.out HE.out.1).mono ?_
          rintro _ w3 ⟨rfl, A3, F3⟩
          have B3 := G9.after H1.out H2.out HLs.out BX hxO A3 F3
          have HG3 := hideIt (B3.back HE.out.2 HND.out HME.out)
          clear b0 b1 b2 b3 b4
          have b0 := B3.box.at0
          clear A3 F3 B3
          go_wp2
          go_roundg (gk - 1)
          case rel => exact ⟨j + 1, f, I, by omega, by go_num, hideIt (by have := HL.out; omega), HG3⟩
          case measure => omega
        | false =>
          have HE := hideIt (rootE_no hs)
          have HM := hideIt (mem_root HND.out HME.out hs)
          go_wp2_with fail
          refine (root_own H1.out a b 0 ia ib hfl.out HE.out).mono ?_
          rintro _ w3 ⟨rfl, A3, F3⟩
          have B3 := G9.after H1.out H2.out HLs.out BX hxO A3 F3
          clear b0 b1 b2 b3 b4
          clear A3 F3
          have HB := hideIt B3
          have q1 := HB.out.box.at1
          have q2 := HB.out.box.at2
          have ga := gbAlloc w3 (.cells #[.int .i64 a, .int .i64 b] 31) none
          have HKL : Hid (Lst (w3.alloc (.cells #[.int .i64 a, .int .i64 b] 31)) w.heap.size u8 I) := hideIt (HB.out.lst.kept ga)
          have HR1 : Hid (Row (w3.alloc (.cells #[.int .i64 a, .int .i64 b] 31)) ⟨w3.heap.size, 0, none⟩ [(a, b)]) := hideIt (rowOne w3 a b)
          have hB : Hid (w.heap.size ≤ (w3.alloc (.cells #[.int .i64 a, .int .i64 b] 31)).heap.size) := hideIt (by have := HB.out.own.gr.size; simp; omega)
          have hdl2 : Hid (I.length + 1 ≤ 1000000) := hideIt (by have := HL.out; omega)
          have HMm := hideIt HM.out
          clear B3
          go_wp2_with (at_builtin; refine wpList_append_slot_at rfl (.tmp 49) (.tmp 52) rfl w.heap.size u8 I rfl HKL.out ⟨w3.heap.size, 0, none⟩ 1 1 [(a, b)] rfl rfl HR1.out hdl2.out hB.out ?_; intro v4 w4 l4 g4 o4; have HG4 : Hid (G9 w w4 p v4 _ (I ++ [(a, b)])) := hideIt (G9.app HB.out.own HB.out.far HB.out.lst HMm.out.1 HMm.out.2 l4 g4 o4); have b0 : w4.cell? ⟨wr.heap.size, 0, none⟩ = some (.int .i64 k) := g4.cell (ga.cell HB.out.box.at0 (by simp)) (fun e => absurd (hvlt _ e.symm) (Nat.lt_irrefl _)); clear l4 g4 o4)
          go_roundg (gk - 1)
          case rel => exact ⟨j + 1, _, _, by omega, by go_num, hideIt (by have := HL.out; simp; omega), HG4⟩
          case measure => omega
      · by_cases k1 : k = 1
        · have hk0 : (k == 0) = false := by simp [k1]
          have hk1 : (k == 1) = true := by simp [k1]
          clear k0 k1
          rcases childE_cases f (a, b) (c, d) with ⟨he, ho, hs⟩ | ⟨e, he, hz, hf⟩
          · have HE := hideIt he
            have HM := hideIt (mem_child HND.out HME.out ho hs)
            go_wp2_with fail
            refine (child_own H1.out a b c d 0 ia ib ic id hfl.out HE.out).mono ?_
            rintro _ w3 ⟨rfl, A3, F3⟩
            have B3 := G9.after H1.out H2.out HLs.out BX hxO A3 F3
            clear b0 b1 b2 b3 b4
            clear A3 F3
            have HB := hideIt B3
            have q3 := HB.out.box.at3
            have q4 := HB.out.box.at4
            have ga := gbAlloc w3 (.cells #[.int .i64 c, .int .i64 d] 31) none
            have HKL : Hid (Lst (w3.alloc (.cells #[.int .i64 c, .int .i64 d] 31)) w.heap.size u8 I) := hideIt (HB.out.lst.kept ga)
            have HR1 : Hid (Row (w3.alloc (.cells #[.int .i64 c, .int .i64 d] 31)) ⟨w3.heap.size, 0, none⟩ [(c, d)]) := hideIt (rowOne w3 c d)
            have hB : Hid (w.heap.size ≤ (w3.alloc (.cells #[.int .i64 c, .int .i64 d] 31)).heap.size) := hideIt (by have := HB.out.own.gr.size; simp; omega)
            have hdl2 : Hid (I.length + 1 ≤ 1000000) := hideIt (by have := HL.out; omega)
            have HMm := hideIt HM.out
            clear B3
            go_wp2_with (at_builtin; refine wpList_append_slot_at rfl (.tmp 66) (.tmp 69) rfl w.heap.size u8 I rfl HKL.out ⟨w3.heap.size, 0, none⟩ 1 1 [(c, d)] rfl rfl HR1.out hdl2.out hB.out ?_; intro v4 w4 l4 g4 o4; have HG4 : Hid (G9 w w4 p v4 _ (I ++ [(c, d)])) := hideIt (G9.app HB.out.own HB.out.far HB.out.lst HMm.out.1 HMm.out.2 l4 g4 o4); clear l4 g4 o4)
            go_roundg (gk - 1)
            case rel => exact ⟨j + 1, _, _, by omega, by go_num, hideIt (by have := HL.out; simp; omega), HG4⟩
            case measure => omega
          · have HE := hideIt he
            have HFe := hideIt hf
            go_wp2_with fail
            refine (child_own H1.out a b c d e ia ib ic id hfl.out HE.out).mono ?_
            rintro _ w3 ⟨rfl, A3, F3⟩
            have B3 := G9.after H1.out H2.out HLs.out BX hxO A3 F3
            have HG3 := hideIt (B3.back HFe.out HND.out HME.out)
            clear b0 b1 b2 b3 b4 A3 F3 B3
            go_wp2
            go_roundg (gk - 1)
            case rel => exact ⟨j + 1, f, I, by omega, by go_num, hideIt (by have := HL.out; omega), HG3⟩
            case measure => omega
        · have hk0 : (k == 0) = false := by simp [k0]
          have hk1 : (k == 1) = false := by simp [k1]
          clear k0 k1
          go_wp2
          go_roundg (gk - 1)
          case rel => exact ⟨j + 1, f, I, by omega, by go_num, hideIt (by have := HL.out; omega), HGW⟩
          case measure => omega
    · obtain ⟨n, hn⟩ : ∃ n, I.length = n := ⟨_, rfl⟩
      have hn40 : n ≤ 40 := by have := HL.out; omega
      obtain ⟨xi, ci, hvin, _, hrow⟩ := HG.out.lst.src hn
      subst hvin
      obtain ⟨O, h1, h2⟩ := HG.out.own
      have HOwn := hideIt h1
      have HFar := hideIt h2
      have HRow := hideIt hrow
      have HNl := hideIt hn
      have hlenf : Hid (f.len = n) := hideIt (HG.out.len.trans hn)
      have hfl : Hid (f.len ≤ 1000) := hideIt (by rw [HG.out.len, hn]; omega)
      have HND := hideIt HG.out.nd
      have HME := hideIt HG.out.mem
      clear hn hrow h1 h2
      go_upto_region 6 with fail
      go_cut [32] (fun s wc => s = .bool false ∧ wc = wr)
      case first =>
        by_cases k1 : (j : Int) < (len : Int)
        · have k2 : ¬ (j : Int) < 40 := by omega
          go_wp2
          go_meet
          exact ⟨rfl, rfl⟩
        · go_wp2
          go_meet
          exact ⟨rfl, rfl⟩
      case rest =>
      obtain ⟨rfl, rfl⟩ := hcut
      clear hlt hj HL
      obtain ⟨wo, hwo⟩ : ∃ wo, wo = wc := ⟨_, rfl⟩
      subst hwo
      by_cases hn0 : n = 0
      · subst hn0
        go_wp2
        go_ret
        exact ⟨rfl, HOwn.out.gr⟩
      · have hnz : ¬ (n : Int) = 0 := by omega
        obtain ⟨ad, rfl⟩ : ∃ ad, xi = some ad := by
          cases xi with
          | some ad => exact ⟨ad, rfl⟩
          | none =>
            rcases HG.out.lst.form with ⟨e, e2⟩ | ⟨_, _, e, _⟩
            · have := HNl.out; rw [e2] at this; simp at this; omega
            · cases e
        have HR := hideIt (HRow.out ad rfl)
        clear HRow
        obtain ⟨A, hA1, hA2⟩ : ∃ A : Nat, IntKind.u64.wrap at0 = (A : Int) ∧ Hid (A % n < n) := ⟨(IntKind.u64.wrap at0).toNat, by have := IntKind.wrap_u64 at0; omega, hideIt (Nat.mod_lt _ (by omega))⟩
        obtain ⟨z, hz⟩ : ∃ z, A % n = z := ⟨_, rfl⟩
        have hzn : z < n := by rw [← hz]; exact hA2.out
        have hz1 : (A : Int) % (n : Int) = (z : Int) := by rw [← hz]; exact (Int.natCast_emod A n).symm
        have hzn' : (z : Int) < (n : Int) := by omega
        clear hz hA2
        obtain ⟨⟨a, b⟩, hab⟩ : ∃ q, I[z]? = some q := ⟨_, List.getElem?_eq_getElem (by rw [HNl.out]; exact hzn)⟩
        have hin : (a, b) ∈ f.pre := (HME.out _).1 (List.mem_of_getElem? hab)
        obtain ⟨ia, ib⟩ := HOwn.out.good.num _ hin
        simp only at ia ib
        have E := HR.out z _ hab
        simp only at E
        have e0 := E.at0
        have e1 := E.at1
        have Hab := hideIt hab
        have Hin := hideIt hin
        have hhas : Hid (f.has (a, b) = true) := hideIt (Fo.has_iff.2 hin)
        clear E hab hin
        obtain ⟨B, hB1⟩ : ∃ B : Nat, IntKind.u64.wrap to0 = (B : Int) := ⟨(IntKind.u64.wrap to0).toNat, by have := IntKind.wrap_u64 to0; omega⟩
        obtain ⟨e, he⟩ : ∃ e, B % 100 = e := ⟨_, rfl⟩
        have he100 : e < 100 := by rw [← he]; exact Nat.mod_lt _ (by omega)
        have he1 : (B : Int) % 100 = (e : Int) := by rw [← he]; omega
        clear he
        have i99 : I64 99 := i64_small 99 (by omega)
        have ie : I64 (e : Int) := i64_small e (by omega)
        go_upto_region 17 with fail
        obtain ⟨W, hW, X, Y, g0⟩ := twoS wo a b 99 e
        rw [hW]
        clear hW e0 e1
        have y0 := Y.at0
        have y1 := Y.at1
        cases hhd : f.has (99, (e : Int)) with
        | true =>
          have Hhd := hideIt hhd
          go_wp2_with fail
          refine (has_is (HOwn.out.kept g0).tat 99 e i99 ie true Hhd.out).mono ?_
          rintro _ w3 ⟨rfl, g3⟩
          go_wp2
          go_ret
          exact ⟨rfl, gbTrans HOwn.out.gr (gbTrans g0 g3)⟩
        | false =>
          have Hhd := hideIt hhd
          have MV := hideIt (Fo.mvd HOwn.out.good hhas.out hhd)
          obtain ⟨f', hf'⟩ : ∃ f', Fo.mv (a, b) (99, (e : Int)) f = f' := ⟨_, rfl⟩
          rw [hf'] at MV
          clear hhd hf'
          go_wp2_with fail
          refine (has_is (HOwn.out.kept g0).tat 99 e i99 ie false Hhd.out).mono ?_
          rintro _ w3 ⟨rfl, g3⟩
          clear y0 y1
          have G3 := gbTrans g0 g3
          have x0 := (X.kept g3).at0
          have x1 := (X.kept g3).at1
          obtain ⟨on, hon⟩ : ∃ on, oN (f.parent (a, b)) = on := ⟨_, rfl⟩
          obtain ⟨oa, hoa⟩ : ∃ oa, oA (f.parent (a, b)) = oa := ⟨_, rfl⟩
          obtain ⟨ob, hob⟩ : ∃ ob, oB (f.parent (a, b)) = ob := ⟨_, rfl⟩
          have Hon := hideIt hon
          have Hoa := hideIt hoa
          have Hob := hideIt hob
          have hio : I64 on ∧ I64 oa := by
            rw [← hon, ← hoa]
            cases hp : f.parent (a, b) with
            | none => exact ⟨i64_small 0 (by omega), i64_small 0 (by omega)⟩
            | some x => exact HOwn.out.good.num x (HOwn.out.good.par hp)
          obtain ⟨ion, ioa⟩ := hio
          clear hon hoa hob
          go_wp2_with fail
          refine (parent_is (HOwn.out.kept G3).tat a b ia ib on oa ob Hon.out Hoa.out Hob.out).mono ?_
          rintro _ w4 ⟨rfl, g4⟩
          clear x0 x1
          go_upto_region 20 with fail
          obtain ⟨W5, hW5, Z5, g5⟩ := sboxNew w4 on oa
          rw [hW5]
          clear hW5
          obtain ⟨z4, hz4⟩ : ∃ z4, z4 = w4.heap.size := ⟨_, rfl⟩
          rw [← hz4] at Z5 ⊢
          have G5 := gbTrans G3 (gbTrans g4 g5)
          have X5 := (X.kept g3).kept (gbTrans g4 g5)
          have Y5 := (Y.kept g3).kept (gbTrans g4 g5)
          obtain ⟨L1, hL1⟩ : ∃ L, f.kin (a, b) = L := ⟨_, rfl⟩
          obtain ⟨L2, hL2⟩ : ∃ L, f.children (on, oa) = L := ⟨_, rfl⟩
          obtain ⟨L3, hL3⟩ : ∃ L, f.children (a, b) = L := ⟨_, rfl⟩
          have hb1 : L1.length ≤ 40 := by have := Fo.kin_len (f := f) (a, b); rw [hL1, hlenf.out] at this; omega
          have hb2 : L2.length ≤ 40 := by have := len_children (f := f) (on, oa); rw [hL2, hlenf.out] at this; omega
          have hb3 : L3.length ≤ 40 := by have := len_children (f := f) (a, b); rw [hL3, hlenf.out] at this; omega
          have Hb1 := hideIt hb1
          have Hb2 := hideIt hb2
          have Hb3 := hideIt hb3
          have HL1 := hideIt hL1
          have HL2 := hideIt hL2
          have HL3 := hideIt hL3
          have Hz4 := hideIt hz4
          have gd5 := gbDrew (gbRefl W5 none)
          have HK : ∀ W', W5.grownBy W' none → Calls Try.prog 14 #[.pointer (some ⟨p, 0, none⟩), sv a b] W' fun e w' => ∃ v', e = .returned v' ∧ Lst w' W'.heap.size v' L1 ∧ W'.grownBy w' none := fun W' g' => kin_is (HOwn.out.kept (gbTrans G5 g')).tat HOwn.out.good a b ia ib hfl.out L1 HL1.out
          have HC2 : ∀ W', W5.grownBy W' none → Calls Try.prog 17 #[.pointer (some ⟨p, 0, none⟩), sv on oa] W' fun e w' => ∃ v', e = .returned v' ∧ Lst w' W'.heap.size v' L2 ∧ W'.grownBy w' none := fun W' g' => children_is (HOwn.out.kept (gbTrans G5 g')).tat on oa ion ioa L2 HL2.out (by have := Hb2.out; omega)
          have HC3 : ∀ W', W5.grownBy W' none → Calls Try.prog 17 #[.pointer (some ⟨p, 0, none⟩), sv a b] W' fun e w' => ∃ v', e = .returned v' ∧ Lst w' W'.heap.size v' L3 ∧ W'.grownBy w' none := fun W' g' => children_is (HOwn.out.kept (gbTrans G5 g')).tat a b ia ib L3 HL3.out (by have := Hb3.out; omega)
          have T5 : (W5.drew.cell? ⟨wo.heap.size, 0, none⟩ = some (.int .i64 a) ∧ W5.drew.cell? ⟨wo.heap.size, 1, none⟩ = some (.int .i64 b) ∧ W5.drew.cell? ⟨z4, 0, none⟩ = some (.int .i64 on) ∧ W5.drew.cell? ⟨z4, 1, none⟩ = some (.int .i64 oa)) := ⟨(X5.kept gd5).at0, (X5.kept gd5).at1, (Z5.kept gd5).at0, (Z5.kept gd5).at1⟩
          have HT : ∀ W', W5.grownBy W' none → (W'.cell? ⟨wo.heap.size, 0, none⟩ = some (.int .i64 a) ∧ W'.cell? ⟨wo.heap.size, 1, none⟩ = some (.int .i64 b) ∧ W'.cell? ⟨z4, 0, none⟩ = some (.int .i64 on) ∧ W'.cell? ⟨z4, 1, none⟩ = some (.int .i64 oa)) := fun W' g' => ⟨(X5.kept g').at0, (X5.kept g').at1, (Z5.kept g').at0, (Z5.kept g').at1⟩
          clear hL1 hL2 hL3 hb1 hb2 hb3 hz4
          go_region_held3 (fun w' => w'.cell? ⟨wo.heap.size, 0, none⟩ = some (.int .i64 a) ∧ w'.cell? ⟨wo.heap.size, 1, none⟩ = some (.int .i64 b) ∧ w'.cell? ⟨z4, 0, none⟩ = some (.int .i64 on) ∧ w'.cell? ⟨z4, 1, none⟩ = some (.int .i64 oa))
            (first | with_reducible exact T5 | with_reducible exact T8 | with_reducible exact T7 | with_reducible exact T6 | fail)
            ((first | (go_at_call 14; refine (HK _ gd5).mono ?_; rintro _ w6 ⟨vk, rfl, lk, g6⟩; have G6 := gbTrans gd5 g6; have T6 := HT w6 G6; have HLk := hideIt lk; clear lk) | (go_at_call 17; refine (HC3 _ G7).mono ?_; rintro _ w8 ⟨vm, rfl, lm, g8⟩; have G8 := gbTrans G7 g8; have T8 := HT w8 G8; have HLm := hideIt lm; clear lm) | (go_at_call 17; refine (HC2 _ G6).mono ?_; rintro _ w7 ⟨vc, rfl, lc, g7⟩; have G7 := gbTrans G6 g7; have T7 := HT w7 G7; have HLc := hideIt lc; clear lc) | fail))
          rename_i hold
          clear hold T5 T6 T7 T8 HT HK HC2 HC3 gd5
          have GG8 := gbTrans G5 G8
          have ho := fun g (hO : O g) => (HOwn.out.lo g hO).2
          have z5 : wo.heap.size ≤ W5.heap.size := G5.size
          have z6 : W5.heap.size ≤ w6.heap.size := G6.size
          have z7 : W5.heap.size ≤ w7.heap.size := G7.size
          have zd : W5.drew.heap.size = W5.heap.size := rfl
          have Fk : ∀ g, vk.ownBlock = some g → ¬ O g := fun g hg hO => by have h1 := (HLk.out.lt g hg).1; have h2 := ho g hO; omega
          have Fc : ∀ g, vc.ownBlock = some g → ¬ O g := fun g hg hO => by have h1 := (HLc.out.lt g hg).1; have h2 := ho g hO; omega
          have Fm : ∀ g, vm.ownBlock = some g → ¬ O g := fun g hg hO => by have h1 := (HLm.out.lt g hg).1; have h2 := ho g hO; omega
          have K8 := hideIt ((HLk.out.kept (gbTrans g7 g8)).zero)
          have C8 := hideIt ((HLc.out.kept g8).zero)
          have M8 := hideIt (HLm.out.zero)
          have H8 := hideIt (HOwn.out.kept GG8)
          have X8 := X5.kept G8
          have Y8 := Y5.kept G8
          have Z8 := Z5.kept G8
          have hx8 : ¬ O wo.heap.size := fun e => absurd (ho _ e) (Nat.lt_irrefl _)
          have hy8 : ¬ O (wo.heap.size + 1) := fun e => by have := ho _ e; omega
          have hz8 : ¬ O z4 := fun e => by have h1 := ho _ e; have h2 := Hz4.out; have h3 := (gbTrans G3 g4).size; omega
          have x0 := X8.at0
          have x1 := X8.at1
          have y0 := Y8.at0
          have y1 := Y8.at1
          clear HLk HLc HLm
          go_wp2_with fail
          refine (move_own H8.out a b 99 e 0 ia ib i99 ie hfl.out MV.out.ok).mono ?_
          rintro _ w9 ⟨rfl, A9, F9⟩
          rw [MV.out.to] at A9
          have H9 := hideIt A9
          have K9 := hideIt (K8.out.fr F9 Fk)
          have C9 := hideIt (C8.out.fr F9 Fc)
          have M9 := hideIt (M8.out.fr F9 Fm)
          have K9o := (H8.out.apart K8.out Fk F9).2
          have X9 := Fr.sbox F9 X8 hx8
          have Y9 := Fr.sbox F9 Y8 hy8
          have Z9 := Fr.sbox F9 Z8 hz8
          have hw : ∀ x, x < w8.heap.size → ¬ O x → ¬ wide O w8 w9 x := fun x hx h e => by
            rcases e with e | e
            · exact h e
            · omega
          have hx9 := hw _ X8.lt hx8
          have hy9 := hw _ Y8.lt hy8
          clear x0 x1 y0 y1 A9 F9 K8 C8 M8 hw
          have x0 := X9.at0
          have x1 := X9.at1
          go_wp2_with fail
          refine (has_is H9.out.tat a b ia ib false MV.out.gone).mono ?_
          rintro _ w10 ⟨rfl, g10⟩
          clear x0 x1
          have y0 := (Y9.kept g10).at0
          have y1 := (Y9.kept g10).at1
          go_wp2_with fail
          refine (has_is (H9.out.kept g10).tat 99 e i99 ie true MV.out.come).mono ?_
          rintro _ w11 ⟨rfl, g11⟩
          have G11 := gbTrans g10 g11
          go_wp2_with fail
          refine (len_is (H9.out.kept G11).tat n (MV.out.ln.trans hlenf.out)).mono ?_
          rintro _ wl ⟨rfl, hwl⟩
          subst hwl
          clear y0 y1
          have y0 := (Y9.kept G11).at0
          have y1 := (Y9.kept G11).at1
          go_wp2_with fail
          refine (parent_is (H9.out.kept G11).tat 99 e i99 ie on oa ob (by rw [MV.out.par]; exact Hon.out) (by rw [MV.out.par]; exact Hoa.out) (by rw [MV.out.par]; exact Hob.out)).mono ?_
          rintro _ w12 ⟨rfl, g12⟩
          clear y0 y1
          go_upto_region 24 with fail
          obtain ⟨W13, hW13, Q13, g13⟩ := sboxNew w12 on oa
          rw [hW13]
          clear hW13
          have G13 := gbTrans G11 (gbTrans g12 g13)
          have q0 := Q13.at0
          have q1 := Q13.at1
          have zz0 := (Z9.kept G13).at0
          have zz1 := (Z9.kept G13).at1
          have y0 := (Y9.kept G13).at0
          have y1 := (Y9.kept G13).at1
          have hsq := M.seq_refl on oa
          have hff' : Hid (f'.len ≤ 1000) := hideIt (by rw [MV.out.ln]; exact hfl.out)
          go_wp2_with fail
          refine (kin_is (H9.out.kept G13).tat H9.out.good 99 e i99 ie hff'.out L1 (MV.out.kn.trans HL1.out)).mono ?_
          rintro _ w14 ⟨v14, rfl, l14, g14⟩
          have G14 := gbTrans G13 g14
          have L14 := hideIt l14
          clear l14
          go_wp2_with fail
          refine (same_is L14.out (K9.out.kept G14) (by have := Hb1.out; omega)).mono ?_
          rintro _ w15 ⟨rfl, g15⟩
          have G15 := gbTrans G14 g15
          clear y0 y1 q0 q1 zz0 zz1
          have y0 := (Y9.kept G15).at0
          have y1 := (Y9.kept G15).at1
          go_wp2_with fail
          refine (children_is (H9.out.kept G15).tat 99 e i99 ie L3 (MV.out.ch.trans HL3.out) (by have := Hb3.out; omega)).mono ?_
          rintro _ w16 ⟨v16, rfl, l16, g16⟩
          have G16 := gbTrans G15 g16
          have L16 := hideIt l16
          clear l16
          go_wp2_with fail
          refine (same_is L16.out (M9.out.kept G16) (by have := Hb3.out; omega)).mono ?_
          rintro _ w17 ⟨rfl, g17⟩
          have G17 := gbTrans G16 g17
          clear y0 y1
          cases hobc : ob with
          | false =>
            subst hobc
            have X17 := hideIt (X9.kept G17)
            have Y17 := hideIt (Y9.kept G17)
            have K17 := hideIt (K9.out.kept G17)
            have H17 := hideIt (H9.out.kept G17)
            have x0 := X17.out.at0
            have x1 := X17.out.at1
            have y0 := Y17.out.at0
            have y1 := Y17.out.at1
            go_wp2_with fail
            refine (move_own H17.out 99 e a b 0 i99 ie ia ib hff'.out MV.out.ok2).mono ?_
            rintro _ w20 ⟨rfl, A20, F20⟩
            rw [MV.out.to2] at A20
            have H20 := hideIt A20
            have K20 := hideIt (K17.out.fr F20 K9o)
            have X20 := Fr.sbox F20 X17.out hx9
            clear x0 x1 y0 y1 A20 F20
            have x0 := X20.at0
            have x1 := X20.at1
            go_wp2_with fail
            refine (kin_is H20.out.tat H20.out.good a b ia ib hfl.out L1 HL1.out).mono ?_
            rintro _ w21 ⟨v21, rfl, l21, g21⟩
            have L21 := hideIt l21
            clear l21
            go_wp2_with fail
            refine (same_is L21.out (K20.out.kept g21) (by have := Hb1.out; omega)).mono ?_
            rintro _ w22 ⟨rfl, g22⟩
            have HFin := hideIt (gbTrans H20.out.gr (gbTrans g21 g22))
            go_wp2
            go_ret
            exact ⟨rfl, HFin.out⟩
          | true =>
            subst hobc
            have hpx : f.parent (a, b) = some (on, oa) := by
              have h1 := Hon.out
              have h2 := Hoa.out
              have h3 := Hob.out
              cases hp : f.parent (a, b) with
              | none => rw [hp] at h3; cases h3
              | some x =>
                rw [hp] at h1 h2
                obtain ⟨x1, x2⟩ := x
                simp only [oN, oA] at h1 h2
                rw [h1, h2]
            have hnow := MV.out.sib _ hpx
            rw [HL2.out] at hnow
            have Hnow := hideIt hnow
            clear hpx hnow
            have zz0 := (Z9.kept G17).at0
            have zz1 := (Z9.kept G17).at1
            go_wp2_with fail
            refine (children_is (H9.out.kept G17).tat on oa ion ioa _ Hnow.out (by rw [List.length_map]; have := Hb2.out; omega)).mono ?_
            rintro _ w18 ⟨v18, rfl, l18, g18⟩
            have G18 := gbTrans G17 g18
            obtain ⟨m, hm⟩ : ∃ m, L2.length = m := ⟨_, rfl⟩
            obtain ⟨xn, cn, hvn, hno18, hrow18⟩ := l18.src (n := m) (by rw [List.length_map]; exact hm)
            subst hvn
            obtain ⟨xc, cc, hvc, hnoc, hrowc⟩ := (C9.out.kept G18).src hm
            subst hvc
            have HRn := hideIt hrow18
            have HRc := hideIt hrowc
            have HNn := hideIt hno18
            have HNc := hideIt hnoc
            have HMm := hideIt hm
            have hm40 : m ≤ 40 := by rw [← hm]; exact Hb2.out
            have X18 := hideIt (X9.kept G18)
            have Y18 := hideIt (Y9.kept G18)
            have K18 := hideIt (K9.out.kept G18)
            have H18 := hideIt (H9.out.kept G18)
            clear l18 hno18 hrow18 hnoc hrowc hm zz0 zz1
            go_wp2
            go_loopg [21] m (fun y i wr => ∃ c : Nat, c + y = m ∧ i = .int .i64 c ∧ w18.grownBy wr none)
            case atStart => exact ⟨0, by omega, rfl, gbRefl _ _⟩
            case round =>
              obtain ⟨c, hc, rfl, gw⟩ := hrel
              by_cases hcm : c < m
              · have hcm' : (c : Int) < (m : Int) := by omega
                obtain ⟨⟨s1, s2⟩, hs12⟩ : ∃ q, L2[c]? = some q := ⟨_, List.getElem?_eq_getElem (by rw [HMm.out]; exact hcm)⟩
                obtain ⟨an, rfl⟩ : ∃ an, xn = some an := by
                  cases xn with
                  | some an => exact ⟨an, rfl⟩
                  | none => have := HNn.out rfl; omega
                obtain ⟨ac, rfl⟩ : ∃ ac, xc = some ac := by
                  cases xc with
                  | some ac => exact ⟨ac, rfl⟩
                  | none => have := HNc.out rfl; omega
                obtain ⟨⟨t1, t2⟩, ht12⟩ : ∃ t, Fo.ren (a, b) (99, (e : Int)) (s1, s2) = t := ⟨_, rfl⟩
                have En := fun y : Gr wr => ((HRn.out an rfl).kept (gbTrans gw y.g)) c (t1, t2) (by rw [List.getElem?_map, hs12]; simp only [Option.map_some]; rw [ht12])
                have Ec := fun y : Gr wr => ((HRc.out ac rfl).kept (gbTrans gw y.g)) c _ hs12
                simp only at En Ec
                have n0 := fun y => (En y).at0
                have n1 := fun y => (En y).at1
                have c0 := fun y => (Ec y).at0
                have c1 := fun y => (Ec y).at1
                have x0 := fun y : Gr wr => (X18.out.kept (gbTrans gw y.g)).at0
                have x1 := fun y : Gr wr => (X18.out.kept (gbTrans gw y.g)).at1
                have y0 := fun y : Gr wr => (Y18.out.kept (gbTrans gw y.g)).at0
                have y1 := fun y : Gr wr => (Y18.out.kept (gbTrans gw y.g)).at1
                clear En Ec hs12
                unfold Fo.ren at ht12
                by_cases hs : (s1, s2) = (a, b)
                · rw [if_pos hs] at ht12
                  have hq2 : M.seq s1 s2 a b = true := M.seq_iff.2 hs
                  have hq3 : M.seq t1 t2 99 (e : Int) = true := M.seq_iff.2 ht12.symm
                  cases hq1 : M.seq t1 t2 s1 s2
                  all_goals (
                    clear hs ht12
                    go_wp2
                    refine wp_region_grown (by kernel_rfl) (by kernel_rfl) fun _ => ?_
                    repeat (go_big_quiet_step (fail))
                    refine wpQuiet_nil ?_
                    rintro w19 ⟨⟨_, g19⟩, rfl⟩
                    clear n0 n1 c0 c1 x0 x1 y0 y1
                    go_wp2
                    go_roundg (gk - 1)
                    case rel => exact ⟨c + 1, by omega, by go_num, gbTrans gw g19⟩
                    case measure => omega)
                · rw [if_neg hs] at ht12
                  have hq1 : M.seq t1 t2 s1 s2 = true := M.seq_iff.2 ht12.symm
                  clear hs ht12
                  go_wp2
                  refine wp_region_grown (by kernel_rfl) (by kernel_rfl) fun _ => ?_
                  repeat (go_big_quiet_step (fail))
                  refine wpQuiet_nil ?_
                  rintro w19 ⟨⟨_, g19⟩, rfl⟩
                  clear n0 n1 c0 c1 x0 x1 y0 y1
                  go_wp2
                  go_roundg (gk - 1)
                  case rel => exact ⟨c + 1, by omega, by go_num, gbTrans gw g19⟩
                  case measure => omega
              · have hcm' : ¬ (c : Int) < (m : Int) := by omega
                have X17 := hideIt (X18.out.kept gw)
                have Y17 := hideIt (Y18.out.kept gw)
                have K17 := hideIt (K18.out.kept gw)
                have H17 := hideIt (H18.out.kept gw)
                have x0 := X17.out.at0
                have x1 := X17.out.at1
                have y0 := Y17.out.at0
                have y1 := Y17.out.at1
                go_wp2_with fail
                refine (move_own H17.out 99 e a b 0 i99 ie ia ib hff'.out MV.out.ok2).mono ?_
                rintro _ w20 ⟨rfl, A20, F20⟩
                rw [MV.out.to2] at A20
                have H20 := hideIt A20
                have K20 := hideIt (K17.out.fr F20 K9o)
                have X20 := Fr.sbox F20 X17.out hx9
                clear x0 x1 y0 y1 A20 F20
                have x0 := X20.at0
                have x1 := X20.at1
                go_wp2_with fail
                refine (kin_is H20.out.tat H20.out.good a b ia ib hfl.out L1 HL1.out).mono ?_
                rintro _ w21 ⟨v21, rfl, l21, g21⟩
                have L21 := hideIt l21
                clear l21
                go_wp2_with fail
                refine (same_is L21.out (K20.out.kept g21) (by have := Hb1.out; omega)).mono ?_
                rintro _ w22 ⟨rfl, g22⟩
                have HFin := hideIt (gbTrans H20.out.gr (gbTrans g21 g22))
                go_wp2
                go_ret
                exact ⟨rfl, HFin.out⟩

theorem walk (xo : Option Addr) (len cap : Nat) (at0 to0 : Int) (w : World) (hx : ∀ i, i < len → ∃ x k m n s t, xo = some x ∧ El5 w (x.add (i * 5)) k m n s t ∧ Op5 m n s t) :
    Calls Try.prog 6 #[.slice xo len cap, .int .i64 at0, .int .i64 to0] w fun e w' => e = .returned (.bool true) ∧ Below w.heap.size w w' :=
  (core xo len cap at0 to0 w (hideIt hx)).mono fun _ _ ⟨h1, h2⟩ => ⟨h1, gbEnd h2⟩

set_option maxRecDepth 100000 in
theorem lifted (os : Os) (started : os.Started) (H : Type) (enc : TypeId × Value → H) :
    ReturnsInHanded {} Try.checked os 6 .any (Rows.treeMovedSpec.pre6 enc Try.prog Try.f6 Rows.treeMovedRow.domain false) (Rows.treeMovedSpec.post enc Try.prog Try.f6 false true false false) := by
  refine returnsInHanded_of_change (C := Try.checked) own started (by kernel_rfl) Try.func6
    (ChangeSpec.witness6 (enc := enc) (C := Try.checked) false ⟨#[], #[.slice none 0 0, .int .i64 0, .int .i64 0], []⟩ 8 (by kernel_rfl) (by kernel_rfl) (by kernel_rfl) (by kernel_rfl)) ?_
  intro W base args ds gs before hval0 hW hcnd _
  have hval : ∀ (j : Nat) t v, Try.f6.params[j]? = some t → args[j]? = some v → Value.okWide Try.prog W .any base t v := hval0
  have hW' := hW
  obtain ⟨p, q, hA0, hV, rfl, hfz, hnd⟩ := hW
  have hA : DataW.TrodAll enc Try.prog W 0 (fun _ => true) true Try.f6.params.toList args.toList ds p := hA0
  rw [Try.params6] at hA hval
  obtain ⟨v0, vs0, d0, ds0, p0, q0, hargs, rfl, rfl, h0, r0⟩ := trodAll_cons hA
  obtain ⟨v1, vs1, d1, ds1, p1, q1, rfl, rfl, rfl, h1, r1⟩ := trodAll_cons r0
  obtain ⟨v2, vs2, d2, ds2, p2, q2, rfl, rfl, rfl, h2, r2⟩ := trodAll_cons r1
  obtain ⟨rfl, rfl, rfl⟩ := trodAll_nil r2
  obtain rfl : args = #[v0, v1, v2] := by cases args; simp_all
  obtain ⟨rfl, rfl⟩ := trodVars_none hV
  obtain ⟨x0, len0, cap0, rfl⟩ := okWide_slice Try.underlying22 (hval 0 22 v0 rfl rfl)
  have hx0 := opsArg h0
  have k0 := h0
  have lt0 : ∀ x ∈ p0, x.block < W.heap.size := by obtain ⟨m, hm⟩ := k0; exact DataW.trod_lt m _ _ _ hm
  obtain ⟨a1, rfl, rfl, rfl, w1⟩ := open_int Try.underlying3 (hval 1 3 v1 rfl rfl) h1
  obtain ⟨a2, rfl, rfl, rfl, w2⟩ := open_int Try.underlying3 (hval 2 3 v2 rfl rfl) h2
  clear hA0 hval0
  refine (walk x0 len0 cap0 a1 a2 W hx0).mono fun e W' ⟨he, bel⟩ => ?_
  subst he
  exact ⟨_, rfl, _, _, _, [], _, [], hW', trodAll_mk1 (shut_bool Try.underlying4 _), (trodAll_cons_mk (Below.trod laidOut (by kernel_rfl) (of_decide_eq_true (by kernel_rfl)) k0 bel lt0) (trodAll_cons_mk (shut_int Try.underlying3 w1) (trodAll_cons_mk (shut_int Try.underlying3 w2) trodAll_mk0))), rfl, bel.frame _, fun h => by cases h⟩

theorem over : Rows.treeMovedRow.holds Try.pinned (OpenSpec.ofChange Rows.treeMovedSpec) :=
  OpenClaim.holds_of_wide 6 Try.f6 rfl rfl rfl rfl rfl rfl rfl ⟨rfl, rfl, rfl, rfl, rfl⟩ rfl rfl rfl rfl rfl (by kernel_rfl) Try.func6 (by kernel_rfl)
    (of_decide_eq_true (by kernel_rfl)) (by unfold Func.isWrapper; first | (rw [if_pos (by decide +kernel)]; kernel_rfl) | (rw [if_neg (by decide +kernel)]; exact ⟨rfl, rfl⟩))
    (fun os started H enc _ => lifted os started H enc)

theorem proved : Rows.TreeMovedSaid := over
end Go.Proofs.Ytboojbnnjbmnoaa.treeMoved
namespace Go.Proofs.Ytboojbnnjbmnoaa
theorem treeMoved_holds : Rows.TreeMovedSaid := treeMoved.proved
#print axioms treeMoved_holds
end Go.Proofs.Ytboojbnnjbmnoaa
