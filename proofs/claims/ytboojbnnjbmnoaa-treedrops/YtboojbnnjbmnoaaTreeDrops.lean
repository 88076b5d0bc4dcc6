/- TreeDrops: whatever slots come, as roots and as children, and whichever of them is dropped: it is gone, and nothing else; what came of it comes of what it came of; the kin of all others is as it was, but for it; no condition. -/
import Derived.Test.YtboojbnnjbmnoaaDropped
import Derived.Deep.Cut
import Derived.Deep.DeepCutAuto
import Derived.Deep.RegionHeld3
import Derived.Test.YtboojbnnjbmnoaaArgs
import Derived.ProofKit
import Derived.OpenShut
import Derived.ShutString
import Derived.ChangeOld
import Derived.Below
import Derived.Deep.Slices
namespace Go.Proofs.Ytboojbnnjbmnoaa.treeDrops
open Go.ChangeShapes Go.WideShapes Go.ChangeAt Go.RowKit
set_option linter.unusedVariables false

theorem own : ownKnob Try.prog.godebug = none := by kernel_rfl
theorem laidOut : laidOutB Try.prog = true := by kernel_rfl

set_option maxRecDepth 10000 in
set_option maxHeartbeats 4000000 in
theorem core (xo : Option Addr) (len cap : Nat) (at0 : Int) (w : World) (HX : Hid (∀ i, i < len → ∃ x k m n s t, xo = some x ∧ El5 w (x.add (i * 5)) k m n s t ∧ Op5 m n s t)) :
    Calls Try.prog 5 #[.slice xo len cap, .int .i64 at0] w fun e w' => e = .returned (.bool true) ∧ w.grownBy w' none := by
  have qe := eqGuardSlots
  have qq := run_eql_slots
  have qn := run_neq_slots
  go_enter Try.func5, Try.ntmps5
  go_wp2_with fail
  refine (works_is _).mono ?_
  rintro _ w1 ⟨rfl, g1⟩
  go_wp2_with fail
  refine (new_own g1).mono ?_
  rintro _ w2 ⟨p, O, rfl, A2, _, _⟩
  have HG2 : Hid (G9 w w2 p (.slice none 0 0) .nil []) := hideIt ⟨⟨O, A2, fun g e => (nomatch e)⟩, Lst.nil _ _, by simp, by simp [Fo.pre]⟩
  clear A2 g1
  go_wp2
  go_loopg [6, 7] 40 (fun y vin i wr => ∃ (j : Nat) (f : Fo) (I : List (Int × Int)), j + y = 40 ∧ i = .int .i64 j ∧ Hid (I.length ≤ j) ∧ Hid (G9 w wr p vin f I))
  case atStart => exact ⟨0, .nil, [], by omega, rfl, hideIt (by simp), HG2⟩
  case round =>
    obtain ⟨j, f, I, hj, rfl, HL, HG⟩ := hrel
    by_cases hlt : j < len ∧ j < 40
    · obtain ⟨hlt, hlt2⟩ := hlt
      have hlt' : (j : Int) < (len : Int) := by omega
      have hlt2' : (j : Int) < 40 := by omega
      obtain ⟨x, k, a, b, c, d, rfl, E0, ⟨ia, ib, ic, id⟩⟩ := HX.out j hlt
      obtain ⟨e0, e1, e2, e3, e4⟩ := E0.kept HG.out.gr
      clear E0
      go_upto_region 9 with fail
      obtain ⟨W, hW, BX, gW⟩ := oboxNew wr k a b c d
      rw [hW]
      clear hW e0 e1 e2 e3 e4
      obtain ⟨O, h1, h2⟩ := HG.out.own
      have hxO : ¬ O wr.heap.size := fun e => absurd (h1.lo _ e).2 (Nat.lt_irrefl _)
      have H1 := hideIt (h1.kept gW)
      have H2 := hideIt h2
      have HLs := hideIt (HG.out.lst.kept gW)
      have hfl : Hid (f.len ≤ 1000) := hideIt (by rw [HG.out.len]; have := HL.out; omega)
      have HND := hideIt HG.out.nd
      have HME := hideIt HG.out.mem
      have HGW := hideIt (HG.out.kept gW)
      have b0 := BX.at0
      have b1 := BX.at1
      have b2 := BX.at2
      have b3 := BX.at3
      have b4 := BX.at4
      clear h1 h2
      have hvlt : ∀ g, u6.ownBlock = some g → g < wr.heap.size := fun g hg => (HG.out.lst.lt g hg).2
      by_cases k0 : k = 0
      · have hk0 : (k == 0) = true := by simp [k0]
        have hk1 : (k == 1) = false := by simp [k0]
        clear k0
        cases hs : f.has (a, b) with
        | true =>
          have HE := hideIt (rootE_yes hs)
          go_wp2_with fail
          refine (root_own H1.out a b 4 ia ib hfl.out HE.out.1).mono ?_
          rintro _ w3 ⟨rfl, A3, F3⟩
          have B3 := G9.after H1.out H2.out HLs.out BX hxO A3 F3
          have HG3 := hideIt (B3.back HE.out.2 HND.out HME.out)
          clear b0 b1 b2 b3 b4
          have b0 := B3.box.at0
          clear A3 F3 B3
          go_wp2
          go_roundg (gk - 1)
          case rel => exact ⟨j + 1, f, I, by omega, by go_num, hideIt (by have := HL.out; omega), HG3⟩
          case measure => omega
        | false =>
          have HE := hideIt (rootE_no hs)
          have HM := hideIt (mem_root HND.out HME.out hs)
          go_wp2_with fail
          refine (root_own H1.out a b 0 ia ib hfl.out HE.out).mono ?_
          rintro _ w3 ⟨rfl, A3, F3⟩
          have B3 := G9.after H1.out H2.out HLs.out BX hxO A3 F3
          clear b0 b1 b2 b3 b4
          clear A3 F3
          have HB := hideIt B3
          have q1 := HB.out.box.at1
          have q2 := HB.out.box.at2
          have ga := gbAlloc w3 (.cells #[.int .i64 a, .int .i64 b] 31) none
          have HKL : Hid (Lst (w3.alloc (.cells #[.int .i64 a, .int .i64 b] 31)) w.heap.size u6 I) := hideIt (HB.out.lst.kept ga)
          have HR1 : Hid (Row (w3.alloc (.cells #[.int .i64 a, .int .i64 b] 31)) ⟨w3.heap.size, 0, none⟩ [(a, b)]) := hideIt (rowOne w3 a b)
          have hB : Hid (w.heap.size ≤ (w3.alloc (.cells #[.int .i64 a, .int .i64 b] 31)).heap.size) := hideIt (by have := HB.out.own.gr.size; simp; omega)
          have hdl2 : Hid (I.length + 1 ≤ 1000000) := hideIt (by have := HL.out; omega)
          have HMm := hideIt HM.out
          clear B3
          go_wp2_with (at_builtin; refine wpList_append_slot_at rfl (.tmp 49) (.tmp 52) rfl w.heap.size u6 I rfl HKL.out ⟨w3.heap.size, 0, none⟩ 1 1 [(a, b)] rfl rfl HR1.out hdl2.out hB.out ?_; intro v4 w4 l4 g4 o4; have HG4 : Hid (G9 w w4 p v4 _ (I ++ [(a, b)])) := hideIt (G9.app HB.out.own HB.out.far HB.out.lst HMm.out.1 HMm.out.2 l4 g4 o4); have b0 : w4.cell? ⟨wr.heap.size, 0, none⟩ = some (.int .i64 k) := g4.cell (ga.cell HB.out.box.at0 (by simp)) (fun e => absurd (hvlt _ e.symm) (Nat.lt_irrefl _)); clear l4 g4 o4)
          go_roundg (gk - 1)
          case rel => exact ⟨j + 1, _, _, by omega, by go_num, hideIt (by have := HL.out; simp; omega), HG4⟩
          case measure => omega
      · by_cases k1 : k = 1
        · have hk0 : (k == 0) = false := by simp [k1]
          have hk1 : (k == 1) = true := by simp [k1]
          clear k0 k1
          rcases childE_cases f (a, b) (c, d) with ⟨he, ho, hs⟩ | ⟨e, he, hz, hf⟩
          · have HE := hideIt he
            have HM := hideIt (mem_child HND.out HME.out ho hs)
            go_wp2_with fail
            refine (child_own H1.out a b c d 0 ia ib ic id hfl.out HE.out).mono ?_
            rintro _ w3 ⟨rfl, A3, F3⟩
            have B3 := G9.after H1.out H2.out HLs.out BX hxO A3 F3
            clear b0 b1 b2 b3 b4
            clear A3 F3
            have HB := hideIt B3
            have q3 := HB.out.box.at3
            have q4 := HB.out.box.at4
            have ga := gbAlloc w3 (.cells #[.int .i64 c, .int .i64 d] 31) none
            have HKL : Hid (Lst (w3.alloc (.cells #[.int .i64 c, .int .i64 d] 31)) w.heap.size u6 I) := hideIt (HB.out.lst.kept ga)
            have HR1 : Hid (Row (w3.alloc (.cells #[.int .i64 c, .int .i64 d] 31)) ⟨w3.heap.size, 0, none⟩ [(c, d)]) := hideIt (rowOne w3 c d)
            have hB : Hid (w.heap.size ≤ (w3.alloc (.cells #[.int .i64 c, .int .i64 d] 31)).heap.size) := hideIt (by have := HB.out.own.gr.size; simp; omega)
            have hdl2 : Hid (I.length + 1 ≤ 1000000) := hideIt (by have := HL.out; omega)
            have HMm := hideIt HM.out
            clear B3
            go_wp2_with (at_builtin; refine wpList_append_slot_at rfl (.tmp 66) (.tmp 69) rfl w.heap.size u6 I rfl HKL.out ⟨w3.heap.size, 0, none⟩ 1 1 [(c, d)] rfl rfl HR1.out hdl2.out hB.out ?_; intro v4 w4 l4 g4 o4; have HG4 : Hid (G9 w w4 p v4 _ (I ++ [(c, d)])) := hideIt (G9.app HB.out.own HB.out.far HB.out.lst HMm.out.1 HMm.out.2 l4 g4 o4); clear l4 g4 o4)
            go_roundg (gk - 1)
            case rel => exact ⟨j + 1, _, _, by omega, by go_num, hideIt (by have := HL.out; simp; omega), HG4⟩
            case measure => omega
          · have HE := hideIt he
            have HFe := hideIt hf
            go_wp2_with fail
            refine (child_own H1.out a b c d e ia ib ic id hfl.out HE.out).mono ?_
            rintro _ w3 ⟨rfl, A3, F3⟩
            have B3 := G9.after H1.out H2.out HLs.out BX hxO A3 F3
            have HG3 := hideIt (B3.back HFe.out HND.out HME.out)
            clear b0 b1 b2 b3 b4 A3 F3 B3
            go_wp2
            go_roundg (gk - 1)
            case rel => exact ⟨j + 1, f, I, by omega, by go_num, hideIt (by have := HL.out; omega), HG3⟩
            case measure => omega
        · have hk0 : (k == 0) = false := by simp [k0]
          have hk1 : (k == 1) = false := by simp [k1]
          clear k0 k1
          go_wp2
          go_roundg (gk - 1)
          case rel => exact ⟨j + 1, f, I, by omega, by go_num, hideIt (by have := HL.out; omega), HGW⟩
          case measure => omega
    · obtain ⟨n, hn⟩ : ∃ n, I.length = n := ⟨_, rfl⟩
      have hn40 : n ≤ 40 := by have := HL.out; omega
      obtain ⟨xi, ci, hvin, _, hrow⟩ := HG.out.lst.src hn
      subst hvin
      obtain ⟨O, h1, h2⟩ := HG.out.own
      have HOwn := hideIt h1
      have HFar := hideIt h2
      have HRow := hideIt hrow
      have HNl := hideIt hn
      have hlenf : Hid (f.len = n) := hideIt (HG.out.len.trans hn)
      have hfl : Hid (f.len ≤ 1000) := hideIt (by rw [HG.out.len, hn]; omega)
      have HND := hideIt HG.out.nd
      have HME := hideIt HG.out.mem
      clear hn hrow h1 h2
      go_upto_region 6 with fail
      go_cut [32] (fun s wc => s = .bool false ∧ wc = wr)
      case first =>
        by_cases k1 : (j : Int) < (len : Int)
        · have k2 : ¬ (j : Int) < 40 := by omega
          go_wp2
          go_meet
          exact ⟨rfl, rfl⟩
        · go_wp2
          go_meet
          exact ⟨rfl, rfl⟩
      case rest =>
      obtain ⟨rfl, rfl⟩ := hcut
      clear hlt hj HL
      obtain ⟨wo, hwo⟩ : ∃ wo, wo = wc := ⟨_, rfl⟩
      subst hwo
      by_cases hn0 : n = 0
      · subst hn0
        go_wp2
        go_ret
        exact ⟨rfl, HOwn.out.gr⟩
      · have hnz : ¬ (n : Int) = 0 := by omega
        obtain ⟨ad, rfl⟩ : ∃ ad, xi = some ad := by
          cases xi with
          | some ad => exact ⟨ad, rfl⟩
          | none =>
            rcases HG.out.lst.form with ⟨e, e2⟩ | ⟨_, _, e, _⟩
            · have := HNl.out; rw [e2] at this; simp at this; omega
            · cases e
        have HR := hideIt (HRow.out ad rfl)
        clear HRow
        obtain ⟨A, hA1, hA2⟩ : ∃ A : Nat, IntKind.u64.wrap at0 = (A : Int) ∧ Hid (A % n < n) := ⟨(IntKind.u64.wrap at0).toNat, by have := IntKind.wrap_u64 at0; omega, hideIt (Nat.mod_lt _ (by omega))⟩
        obtain ⟨z, hz⟩ : ∃ z, A % n = z := ⟨_, rfl⟩
        have hzn : z < n := by rw [← hz]; exact hA2.out
        have hz1 : (A : Int) % (n : Int) = (z : Int) := by rw [← hz]; exact (Int.natCast_emod A n).symm
        have hzn' : (z : Int) < (n : Int) := by omega
        clear hz hA2
        obtain ⟨⟨a, b⟩, hab⟩ : ∃ q, I[z]? = some q := ⟨_, List.getElem?_eq_getElem (by rw [HNl.out]; exact hzn)⟩
        have hin : (a, b) ∈ f.pre := (HME.out _).1 (List.mem_of_getElem? hab)
        obtain ⟨ia, ib⟩ := HOwn.out.good.num _ hin
        simp only at ia ib
        have E := HR.out z _ hab
        simp only at E
        have e0 := E.at0
        have e1 := E.at1
        have Hab := hideIt hab
        have Hin := hideIt hin
        have hhas : Hid (f.has (a, b) = true) := hideIt (Fo.has_iff.2 hin)
        clear E hab hin
        have hmm := @run_makeMap Try.prog
        go_upto_region 16 with fail
        obtain ⟨W, hW, X, g0⟩ := sboxNew wo a b
        rw [hW]
        clear hW e0 e1
        have x0 := X.at0
        have x1 := X.at1
        have DR := hideIt (Fo.drp HOwn.out.good hhas.out)
        obtain ⟨f', hf'⟩ : ∃ f', Fo.drop (a, b) f = f' := ⟨_, rfl⟩
        rw [hf'] at DR
        clear hf'
        obtain ⟨on, hon⟩ : ∃ on, oN (f.parent (a, b)) = on := ⟨_, rfl⟩
        obtain ⟨oa, hoa⟩ : ∃ oa, oA (f.parent (a, b)) = oa := ⟨_, rfl⟩
        obtain ⟨ob, hob⟩ : ∃ ob, oB (f.parent (a, b)) = ob := ⟨_, rfl⟩
        have Hon := hideIt hon
        have Hoa := hideIt hoa
        have Hob := hideIt hob
        clear hon hoa hob
        go_wp2_with fail
        refine (parent_is (HOwn.out.kept g0).tat a b ia ib on oa ob Hon.out Hoa.out Hob.out).mono ?_
        rintro _ w4 ⟨rfl, g4⟩
        clear x0 x1
        go_upto_region 17 with fail
        obtain ⟨W5, hW5, Z5, g5⟩ := sboxNew w4 on oa
        rw [hW5]
        clear hW5
        obtain ⟨z4, hz4⟩ : ∃ z4, z4 = w4.heap.size := ⟨_, rfl⟩
        rw [← hz4] at Z5 ⊢
        have G5 := gbTrans g0 (gbTrans g4 g5)
        have X5 := X.kept (gbTrans g4 g5)
        have x0 := X5.at0
        have x1 := X5.at1
        obtain ⟨L3, hL3⟩ : ∃ L, f.children (a, b) = L := ⟨_, rfl⟩
        have hb3 : L3.length ≤ 40 := by have := len_children (f := f) (a, b); rw [hL3, hlenf.out] at this; omega
        have HL3 := hideIt hL3
        have Hb3 := hideIt hb3
        have Hz4 := hideIt hz4
        clear hL3 hb3 hz4
        go_wp2_with fail
        refine (children_is (HOwn.out.kept G5).tat a b ia ib L3 HL3.out (by have := Hb3.out; omega)).mono ?_
        rintro _ w6 ⟨vm, rfl, lm, g6⟩
        have G6 := gbTrans G5 g6
        clear x0 x1
        have ho := fun g (hO : O g) => (HOwn.out.lo g hO).2
        have Fm : ∀ g, vm.ownBlock = some g → ¬ O g := fun g hg hO => by have h1 := (lm.lt g hg).1; have h2 := ho g hO; have h3 := G5.size; omega
        have HLm := hideIt lm.zero
        clear lm
        go_upto_region 19 with fail
        obtain ⟨W7, hW7, S7, g7, hs7⟩ : ∃ W7, w6.alloc (.map #[] 0) = W7 ∧ SMap W7 w6.heap.size 0 (fun _ => .slice none 0 0) ∧ w6.grownBy W7 none ∧ W7.heap.size = w6.heap.size + 1 := ⟨_, rfl, SMap.made w6, gbAlloc _ _ _, by simp⟩
        rw [hW7]
        clear hW7
        obtain ⟨mb, hmb⟩ : ∃ mb, mb = w6.heap.size := ⟨_, rfl⟩
        rw [← hmb] at S7 ⊢
        have hmbO : ¬ O mb := fun e => by have h1 := ho _ e; have h2 := G6.size; omega
        have HK7 : Hid (Kpt W7 O mb 0 I f (fun _ => .slice none 0 0)) := hideIt ⟨S7, hmbO, by simp, by simp⟩
        have G7 := gbTrans G6 g7
        have HX7 := hideIt (X5.kept (gbTrans g6 g7))
        have HZ7 := hideIt (Z5.kept (gbTrans g6 g7))
        have HM7 := hideIt (HLm.out.kept g7)
        have H7 := hideIt (HOwn.out.kept G7)
        have HRl : Hid (Lst W7 w.heap.size (.slice (some ad) n ci) I) := hideIt (HG.out.lst.kept G7)
        have hadb : Hid (¬ O ad.block ∧ w.heap.size ≤ ad.block ∧ ad.block < wo.heap.size) := hideIt ⟨HFar.out _ rfl, (HG.out.lst.lt _ rfl).1, (HG.out.lst.lt _ rfl).2⟩
        have hmbl : Hid (wo.heap.size ≤ mb ∧ w.heap.size ≤ mb ∧ mb < W7.heap.size) := hideIt ⟨by rw [hmb]; exact G6.size, by rw [hmb]; exact Nat.le_trans HOwn.out.gr.size G6.size, by rw [hs7, hmb]; omega⟩
        have Hbox : Hid (wo.heap.size < mb ∧ z4 < mb) := hideIt ⟨by rw [hmb]; exact Nat.lt_of_lt_of_le X5.lt g6.size, by rw [hmb]; exact Nat.lt_of_lt_of_le Z5.lt g6.size⟩
        have Hvm : Hid (∀ g, vm.ownBlock = some g → g < mb) := hideIt (fun g hg => by rw [hmb]; exact (HLm.out.lt g hg).2)
        clear S7 hs7 hmm hmb
        go_wp2
        go_loopg [14] n (fun y i wr => ∃ (c : Nat) (F : Int × Int → Value), c + y = n ∧ i = .int .i64 c ∧ Hid (Kpt wr O mb c I f F) ∧ W7.grownBy wr (some mb))
        case atStart => exact ⟨0, _, by omega, rfl, HK7, gbRefl _ _⟩
        case round =>
          obtain ⟨c, F, hc, rfl, HK, gw⟩ := hrel
          have hOr : Hid (Own w wr O p f) := hideIt (H7.out.keep gw (fun x e => by cases e; exact ⟨hmbO, hmbl.out.2.1⟩))
          have Hadm : Hid (some ad.block ≠ some mb) := hideIt (by have h1 := hadb.out.2.2; have h2 := hmbl.out.1; simp; omega)
          have HRr : Hid (Lst wr w.heap.size (.slice (some ad) n ci) I) := hideIt (World.ownsRow.kept HRl.out gw (.inr Hadm.out))
          have Rr := hideIt ((HRr.out.src HNl.out).elim fun _ h => h.elim fun _ h => by obtain ⟨e, _, hr⟩ := h; simp only [Value.slice.injEq] at e; exact hr ad e.1.symm)
          by_cases hcn : c < n
          · have hcn' : (c : Int) < (n : Int) := by omega
            obtain ⟨⟨a2, b2⟩, hab2⟩ : ∃ q, I[c]? = some q := ⟨_, List.getElem?_eq_getElem (by rw [HNl.out]; exact hcn)⟩
            have hin2 : (a2, b2) ∈ f.pre := (HME.out _).1 (List.mem_of_getElem? hab2)
            obtain ⟨ia2, ib2⟩ := HOwn.out.good.num _ hin2
            simp only at ia2 ib2
            have Hab2 := hideIt hab2
            have E : ∀ W', wr.grownBy W' none → (W'.cell? (ad.add (c * 2)) = some (.int .i64 a2) ∧ W'.cell? ⟨(ad.add (c * 2)).block, (ad.add (c * 2)).off + 1, none⟩ = some (.int .i64 b2)) := fun W' g' => ⟨((Rr.out.kept g') c _ Hab2.out).at0, ((Rr.out.kept g') c _ Hab2.out).at1⟩
            have gd := gbDrew (gbRefl wr none)
            have T0 := E wr.drew gd
            have HKn := kin_is (hOr.out.kept gd).tat HOwn.out.good a2 b2 ia2 ib2 hfl.out _ rfl
            clear hab2 hin2
            go_wp2
            go_region_held3 (fun w' => w'.cell? (ad.add (c * 2)) = some (.int .i64 a2) ∧ w'.cell? ⟨(ad.add (c * 2)).block, (ad.add (c * 2)).off + 1, none⟩ = some (.int .i64 b2))
              (first | with_reducible exact T0 | with_reducible exact T3 | with_reducible exact T2 | fail)
              ((go_at_call 14; refine HKn.mono ?_; rintro _ w8 ⟨vk, rfl, lk, g8⟩; have G8 := gbTrans gd g8; have T2 := E w8 G8; obtain ⟨w9, hr9, s9, g9⟩ := (HK.out.kept G8).map.put a2 b2 vk lk.sl ia2 ib2 (by omega); have T3 : (w9.cell? (ad.add (c * 2)) = some (.int .i64 a2) ∧ w9.cell? ⟨(ad.add (c * 2)).block, (ad.add (c * 2)).off + 1, none⟩ = some (.int .i64 b2)) := ⟨g9.cell T2.1 (by rw [add_block]; exact Hadm.out), g9.cell T2.2 (by rw [add_block]; exact Hadm.out)⟩; have HK9 := hideIt ((HK.out.kept G8).add HND.out Hab2.out lk.zero (fun g hg hO => absurd (hOr.out.lo g hO).2 (Nat.not_lt.2 (lk.lt g hg).1)) s9 g9); have GG9 : wr.grownBy w9 (some mb) := gbTrans (gbAny G8 _) g9; clear lk s9 g8 g9))
            rename_i hold
            clear hold T0 T2 T3 HKn E hr9
            go_wp2
            go_roundg (gk - 1)
            case rel => exact ⟨c + 1, _, by omega, by go_num, HK9, gbTrans gw GG9⟩
            case measure => omega
          · have hcn' : ¬ (c : Int) < (n : Int) := by omega
            obtain rfl : c = n := by omega
            have hxm : some wo.heap.size ≠ some mb := by have := Hbox.out.1; simp; omega
            have hzm : some z4 ≠ some mb := by have := Hbox.out.2; simp; omega
            have X8 : SBox wr wo.heap.size a b := ⟨gw.cell HX7.out.at0 hxm, gw.cell HX7.out.at1 hxm, Nat.lt_of_lt_of_le HX7.out.lt gw.size⟩
            have Z8 : SBox wr z4 on oa := ⟨gw.cell HZ7.out.at0 hzm, gw.cell HZ7.out.at1 hzm, Nat.lt_of_lt_of_le HZ7.out.lt gw.size⟩
            have M8 : Lst wr 0 vm L3 := World.ownsRow.kept HM7.out gw (by
              cases e : vm.ownBlock with
              | none => exact .inl rfl
              | some g => exact .inr (by have := Hvm.out g e; simp; omega))
            have hx8 : ¬ O wo.heap.size := fun e => absurd (ho _ e) (Nat.lt_irrefl _)
            have hz8 : ¬ O z4 := fun e => by have h1 := ho _ e; have h2 := Hz4.out; have h3 := (gbTrans g0 g4).size; omega
            have x0 := X8.at0
            have x1 := X8.at1
            obtain ⟨w8, hw8⟩ : ∃ w8, w8 = wr := ⟨_, rfl⟩
            subst hw8
            go_wp2_with fail
            refine (drop_own hOr.out a b 0 ia ib hfl.out DR.out.ok).mono ?_
            rintro _ w9 ⟨rfl, A9, F9⟩
            rw [DR.out.to] at A9
            have H9 := hideIt A9
            have K9 := hideIt (HK.out.fr F9 (O' := wide O w8 w9) (fun i hi e => by rcases e with e | e; exact e; omega))
            have M9 := hideIt (M8.fr F9 Fm)
            have X9 := Fr.sbox F9 X8 hx8
            have Z9 := Fr.sbox F9 Z8 hz8
            have R9 := hideIt (Rr.out.fr F9 hadb.out.1)
            clear x0 x1 A9 F9 M8
            have x0 := X9.at0
            have x1 := X9.at1
            have hff' : Hid (f'.len ≤ 1000) := hideIt (by have := DR.out.ln; have := hfl.out; omega)
            go_wp2_with fail
            refine (has_is H9.out.tat a b ia ib false DR.out.gone).mono ?_
            rintro _ w10 ⟨rfl, g10⟩
            clear x0 x1
            obtain ⟨n1, hn1⟩ : ∃ n1 : Nat, c = n1 + 1 := ⟨c - 1, by omega⟩
            have hln : Hid (f'.len = n1) := hideIt (by have := DR.out.ln; have := hlenf.out; omega)
            have hn1' : (c : Int) - 1 = (n1 : Int) := by omega
            have Hn1 := hideIt hn1
            clear hn1
            go_wp2_with fail
            refine (len_is (H9.out.kept g10).tat n1 hln.out).mono ?_
            rintro _ wl ⟨rfl, hwl⟩
            subst hwl
            obtain ⟨m, hm⟩ : ∃ m, L3.length = m := ⟨_, rfl⟩
            obtain ⟨xm, cm, hvm, hnom, hrowm⟩ := (M9.out.kept g10).src hm
            subst hvm
            have HRm := hideIt hrowm
            have HNm := hideIt hnom
            have HMm := hideIt hm
            have hm40 : m ≤ 40 := by rw [← hm]; exact Hb3.out
            have hsq := M.seq_refl on oa
            clear hm hrowm hnom
            go_wp2
            go_loopg [15] m (fun y i wr => ∃ k : Nat, k + y = m ∧ i = .int .i64 k ∧ wl.grownBy wr none)
            case atStart => exact ⟨0, by omega, rfl, gbRefl _ _⟩
            case round =>
              obtain ⟨k, hk, rfl, gk1⟩ := hrel
              have G10 := gbTrans g10 gk1
              by_cases hkm : k < m
              · have hkm' : (k : Int) < (m : Int) := by omega
                obtain ⟨⟨a2, b2⟩, hab2⟩ : ∃ q, L3[k]? = some q := ⟨_, List.getElem?_eq_getElem (by rw [HMm.out]; exact hkm)⟩
                have hin3 : (a2, b2) ∈ f.children (a, b) := by rw [HL3.out]; exact List.mem_of_getElem? hab2
                obtain ⟨p1, p2, p3, p4⟩ := HOwn.out.good.place' hhas.out
                obtain ⟨ia2, ib2⟩ := HOwn.out.good.num _ (p1 _ hin3)
                simp only at ia2 ib2
                have hpar := hideIt (DR.out.par _ hin3)
                obtain ⟨am, rfl⟩ : ∃ am, xm = some am := by
                  cases xm with
                  | some am => exact ⟨am, rfl⟩
                  | none => have := HNm.out rfl; omega
                have E := ((HRm.out am rfl).kept gk1) k _ hab2
                simp only at E
                have e0 := E.at0
                have e1 := E.at1
                clear p1 p2 p3 p4 hin3 hab2 E
                go_wp2_with fail
                refine (parent_is (H9.out.kept G10).tat a2 b2 ia2 ib2 on oa ob (by rw [hpar.out]; exact Hon.out) (by rw [hpar.out]; exact Hoa.out) (by rw [hpar.out]; exact Hob.out)).mono ?_
                rintro _ w11 ⟨rfl, g11⟩
                clear e0 e1
                go_upto_region 29 with fail
                obtain ⟨W12, hW12, Q12, g12⟩ := sboxNew w11 on oa
                rw [hW12]
                clear hW12
                have q0 := Q12.at0
                have q1 := Q12.at1
                have zz0 := (Z9.kept (gbTrans G10 (gbTrans g11 g12))).at0
                have zz1 := (Z9.kept (gbTrans G10 (gbTrans g11 g12))).at1
                go_wp2
                go_roundg (gk - 1)
                case rel => exact ⟨k + 1, by omega, by go_num, gbTrans gk1 (gbTrans g11 g12)⟩
                case measure => omega
              · have hkm' : ¬ (k : Int) < (m : Int) := by omega
                obtain ⟨w11, hw11⟩ : ∃ w11, w11 = wr := ⟨_, rfl⟩
                subst hw11
                clear hk
                go_wp2
                go_loopg [18] c (fun y i wr => ∃ k : Nat, k + y = c ∧ i = .int .i64 k ∧ w11.grownBy wr none)
                case atStart => exact ⟨0, by omega, rfl, gbRefl _ _⟩
                case round =>
                  obtain ⟨k, hk, rfl, gk2⟩ := hrel
                  have G12 := gbTrans G10 gk2
                  by_cases hkc : k < c
                  · have hkc' : (k : Int) < (c : Int) := by omega
                    obtain ⟨⟨a2, b2⟩, hab2⟩ : ∃ q, I[k]? = some q := ⟨_, List.getElem?_eq_getElem (by rw [HNl.out]; exact hkc)⟩
                    have hinI : (a2, b2) ∈ I := List.mem_of_getElem? hab2
                    obtain ⟨ia2, ib2⟩ := HOwn.out.good.num _ ((HME.out _).1 hinI)
                    simp only at ia2 ib2
                    have E := fun y : Gr wr => (R9.out.kept (gbTrans G12 y.g)) k _ hab2
                    simp only at E
                    have e0 := fun y => (E y).at0
                    have e1 := fun y => (E y).at1
                    have x0 := fun y : Gr wr => (X9.kept (gbTrans G12 y.g)).at0
                    have x1 := fun y : Gr wr => (X9.kept (gbTrans G12 y.g)).at1
                    have Hab2 := hideIt hab2
                    have HinI := hideIt hinI
                    clear E hab2 hinI
                    by_cases hss : (a2, b2) = (a, b)
                    · have hq := M.seq_iff.2 hss
                      clear hss
                      go_wp2
                      refine wp_region_grown (by kernel_rfl) (by kernel_rfl) fun _ => ?_
                      repeat (go_big_quiet_step (fail))
                      refine wpQuiet_nil ?_
                      rintro w13 ⟨⟨_, g13⟩, rfl⟩
                      clear e0 e1 x0 x1
                      go_wp2
                      go_roundg (gk - 1)
                      case rel => exact ⟨k + 1, by omega, by go_num, gbTrans gk2 g13⟩
                      case measure => omega
                    · have hq := M.seq_not.2 hss
                      have Hss := hideIt hss
                      clear hss
                      go_wp2
                      refine wp_region_grown (by kernel_rfl) (by kernel_rfl) fun _ => ?_
                      repeat (go_big_quiet_step (fail))
                      refine wpQuiet_nil ?_
                      rintro w13 ⟨⟨_, g13⟩, rfl⟩
                      clear e0 e1 x0 x1
                      have G13 := gbTrans G12 g13
                      have E := (R9.out.kept G13) k _ Hab2.out
                      simp only at E
                      have e0 := E.at0
                      have e1 := E.at1
                      have K13 := K9.out.kept G13
                      have lk := K13.map.look a2 b2 ia2 ib2
                      have hwas := K13.lst _ (show (a2, b2) ∈ I.take c by rw [List.take_of_length_le (by rw [HNl.out]; exact Nat.le_refl _)]; exact HinI.out)
                      obtain ⟨L, hL⟩ : ∃ L, f.kin (a2, b2) = L := ⟨_, rfl⟩
                      rw [hL] at hwas
                      obtain ⟨q, hql⟩ : ∃ q, L.length = q := ⟨_, rfl⟩
                      have hq40 : q ≤ 40 := by have := Fo.kin_len (f := f) (a2, b2); rw [hL, hql, hlenf.out] at this; omega
                      obtain ⟨xw, cw, hvw, hnow, hroww⟩ := hwas.src hql
                      rw [hvw] at lk
                      have HRw := hideIt hroww
                      have HNw := hideIt hnow
                      have HLq := hideIt hql
                      have HLL := hideIt hL
                      obtain ⟨Gk, hGk⟩ : ∃ Gk, Gk = gk := ⟨_, rfl⟩
                      subst hGk
                      have HkO := hideIt (show k + Gk = c from hk)
                      clear E hwas hvw hnow hroww hql hL K13 hk
                      go_wp2
                      go_loopg [19, 21] q (fun y wv i wr => ∃ r : Nat, r + y = q ∧ i = .int .i64 r ∧ Hid (Lst wr w13.heap.size wv ((L.take r).filter (· != (a, b)))) ∧ w13.grownBy wr none)
                      case atStart => exact ⟨0, by omega, rfl, hideIt (by rw [List.take_zero]; exact Lst.nil _ _), gbRefl _ _⟩
                      case round =>
                        obtain ⟨r, hr, rfl, HLw, g14⟩ := hrel
                        by_cases hrq : r < q
                        · have hrq' : (r : Int) < (q : Int) := by omega
                          obtain ⟨⟨a3, b3⟩, hab3⟩ : ∃ q, L[r]? = some q := ⟨_, List.getElem?_eq_getElem (by rw [HLq.out]; exact hrq)⟩
                          obtain ⟨aw, rfl⟩ : ∃ aw, xw = some aw := by
                            cases xw with
                            | some aw => exact ⟨aw, rfl⟩
                            | none => have := HNw.out rfl; omega
                          have E := fun y : Gr wr => ((HRw.out aw rfl).kept (gbTrans g14 y.g)) r _ hab3
                          simp only at E
                          have v0 := fun y => (E y).at0
                          have v1 := fun y => (E y).at1
                          have x0 := fun y : Gr wr => (X9.kept (gbTrans (gbTrans G13 g14) y.g)).at0
                          have x1 := fun y : Gr wr => (X9.kept (gbTrans (gbTrans G13 g14) y.g)).at1
                          have Hab3 := hideIt hab3
                          have htk : L.take (r + 1) = L.take r ++ [(a3, b3)] := by rw [List.take_add_one, hab3]; rfl
                          have Htk := hideIt htk
                          have hlen1 : Hid (((L.take r).filter (· != (a, b))).length + 1 ≤ 1000000) := hideIt (by have h1 := List.length_filter_le (· != (a, b)) (L.take r); have h2 := List.length_take_le r L; omega)
                          clear E hab3 htk
                          by_cases h3 : (a3, b3) = (a, b)
                          · have hq3 := M.seq_iff.2 h3
                            have H3 := hideIt h3
                            clear h3
                            go_wp2
                            refine wp_region_grown (by kernel_rfl) (by kernel_rfl) fun _ => ?_
                            repeat (go_big_quiet_step (fail))
                            refine wpQuiet_nil ?_
                            rintro w15 ⟨⟨_, g15⟩, rfl⟩
                            clear v0 v1 x0 x1
                            go_wp2
                            go_roundg (gk - 1)
                            case rel => exact ⟨r + 1, by omega, by go_num, hideIt (by rw [Htk.out, List.filter_append, H3.out]; simp; exact HLw.out.kept g15), gbTrans g14 g15⟩
                            case measure => omega
                          · have hq3 := M.seq_not.2 h3
                            have H3 := hideIt h3
                            clear h3
                            go_wp2
                            refine wp_region_grown (by kernel_rfl) (by kernel_rfl) fun _ => ?_
                            repeat (go_big_quiet_step (fail))
                            refine wpQuiet_nil ?_
                            rintro w15 ⟨⟨_, g15⟩, rfl⟩
                            clear v0 v1 x0 x1
                            have E := ((HRw.out aw rfl).kept (gbTrans g14 g15)) r _ Hab3.out
                            simp only at E
                            have v0 := E.at0
                            have v1 := E.at1
                            have ga := gbAlloc w15 (.cells #[.int .i64 a3, .int .i64 b3] 31) none
                            have HKL := hideIt (HLw.out.kept (gbTrans g15 ga))
                            have HR1 := hideIt (rowOne w15 a3 b3)
                            have hB : Hid (w13.heap.size ≤ (w15.alloc (.cells #[.int .i64 a3, .int .i64 b3] 31)).heap.size) := hideIt (gbTrans (gbTrans g14 g15) ga).size
                            have hown := HLw.out.lt
                            clear E
                            go_wp2_with (at_builtin; refine wpList_append_slot_at rfl (.tmp 181) (.tmp 186) rfl w13.heap.size u19 _ rfl HKL.out ⟨w15.heap.size, 0, none⟩ 1 1 [(a3, b3)] rfl rfl HR1.out hlen1.out hB.out ?_; intro v16 w16 l16 g16 o16; have HL16 : Hid (Lst w16 w13.heap.size v16 ((L.take r).filter (· != (a, b)) ++ [(a3, b3)])) := hideIt l16; clear l16)
                            have G16 : w13.grownBy w16 none := gbNews (gbTrans (gbAny (gbTrans (gbTrans g14 g15) ga) _) g16) (fun g e => (hown g e).1)
                            go_roundg (gk - 1)
                            case rel => exact ⟨r + 1, by omega, by go_num, hideIt (by rw [Htk.out, List.filter_append]; have h := H3.out; simp only [List.filter_cons, List.filter_nil, bne_iff_ne, ne_eq, h, not_false_eq_true, if_true]; exact HL16.out), G16⟩
                            case measure => omega
                        · have hrq' : ¬ (r : Int) < (q : Int) := by omega
                          have hLw := HLw.out
                          rw [List.take_of_length_le (by rw [HLq.out]; omega)] at hLw
                          have HLw2 := hideIt hLw
                          have hkn := DR.out.kn _ Hss.out
                          rw [HLL.out] at hkn
                          have Hkn := hideIt hkn
                          have G14 := gbTrans G13 g14
                          have E2 := (R9.out.kept G14) k _ Hab2.out
                          simp only at E2
                          have y0 := E2.at0
                          have y1 := E2.at1
                          have hk := HkO.out
                          clear hLw hkn E2
                          go_wp2_with fail
                          refine (kin_is (H9.out.kept G14).tat H9.out.good a2 b2 ia2 ib2 hff'.out _ Hkn.out).mono ?_
                          rintro _ w17 ⟨v17, rfl, l17, g17⟩
                          have L17 := hideIt l17
                          clear l17
                          go_wp2_with fail
                          refine (same_is L17.out (HLw2.out.kept g17) (by have h1 := List.length_filter_le (· != (a, b)) L; have := HLq.out; omega)).mono ?_
                          rintro _ w18 ⟨rfl, g18⟩
                          clear y0 y1
                          go_wp2
                          go_roundg (Gk - 1)
                          case rel => exact ⟨k + 1, by omega, by go_num, gbTrans (gbTrans gk2 g13) (gbTrans g14 (gbTrans g17 g18))⟩
                          case measure => omega
                  · have hkc' : ¬ (k : Int) < (c : Int) := by omega
                    have HFin := hideIt (gbTrans H9.out.gr G12)
                    go_wp2
                    go_ret
                    exact ⟨rfl, HFin.out⟩

theorem walk (xo : Option Addr) (len cap : Nat) (at0 : Int) (w : World) (hx : ∀ i, i < len → ∃ x k m n s t, xo = some x ∧ El5 w (x.add (i * 5)) k m n s t ∧ Op5 m n s t) :
    Calls Try.prog 5 #[.slice xo len cap, .int .i64 at0] w fun e w' => e = .returned (.bool true) ∧ Below w.heap.size w w' :=
  (core xo len cap at0 w (hideIt hx)).mono fun _ _ ⟨h1, h2⟩ => ⟨h1, gbEnd h2⟩

set_option maxRecDepth 100000 in
theorem lifted (os : Os) (started : os.Started) (H : Type) (enc : TypeId × Value → H) :
    ReturnsInHanded {} Try.checked os 5 .any (Rows.treeDropsSpec.pre6 enc Try.prog Try.f5 Rows.treeDropsRow.domain false) (Rows.treeDropsSpec.post enc Try.prog Try.f5 false true false false) := by
  refine returnsInHanded_of_change (C := Try.checked) own started (by kernel_rfl) Try.func5
    (ChangeSpec.witness6 (enc := enc) (C := Try.checked) false ⟨#[], #[.slice none 0 0, .int .i64 0], []⟩ 8 (by kernel_rfl) (by kernel_rfl) (by kernel_rfl) (by kernel_rfl)) ?_
  intro W base args ds gs before hval0 hW hcnd _
  have hval : ∀ (j : Nat) t v, Try.f5.params[j]? = some t → args[j]? = some v → Value.okWide Try.prog W .any base t v := hval0
  have hW' := hW
  obtain ⟨p, q, hA0, hV, rfl, hfz, hnd⟩ := hW
  have hA : DataW.TrodAll enc Try.prog W 0 (fun _ => true) true Try.f5.params.toList args.toList ds p := hA0
  rw [Try.params5] at hA hval
  obtain ⟨v0, vs0, d0, ds0, p0, q0, hargs, rfl, rfl, h0, r0⟩ := trodAll_cons hA
  obtain ⟨v1, vs1, d1, ds1, p1, q1, rfl, rfl, rfl, h1, r1⟩ := trodAll_cons r0
  obtain ⟨rfl, rfl, rfl⟩ := trodAll_nil r1
  obtain rfl : args = #[v0, v1] := by cases args; simp_all
  obtain ⟨rfl, rfl⟩ := trodVars_none hV
  obtain ⟨x0, len0, cap0, rfl⟩ := okWide_slice Try.underlying22 (hval 0 22 v0 rfl rfl)
  have hx0 := opsArg h0
  have k0 := h0
  have lt0 : ∀ x ∈ p0, x.block < W.heap.size := by obtain ⟨m, hm⟩ := k0; exact DataW.trod_lt m _ _ _ hm
  obtain ⟨a1, rfl, rfl, rfl, w1⟩ := open_int Try.underlying3 (hval 1 3 v1 rfl rfl) h1
  clear hA0 hval0
  refine (walk x0 len0 cap0 a1 W hx0).mono fun e W' ⟨he, bel⟩ => ?_
  subst he
  exact ⟨_, rfl, _, _, _, [], _, [], hW', trodAll_mk1 (shut_bool Try.underlying4 _), (trodAll_cons_mk (Below.trod laidOut (by kernel_rfl) (of_decide_eq_true (by kernel_rfl)) k0 bel lt0) (trodAll_cons_mk (shut_int Try.underlying3 w1) trodAll_mk0)), rfl, bel.frame _, fun h => by cases h⟩

theorem over : Rows.treeDropsRow.holds Try.pinned (OpenSpec.ofChange Rows.treeDropsSpec) :=
  OpenClaim.holds_of_wide 5 Try.f5 rfl rfl rfl rfl rfl rfl rfl ⟨rfl, rfl, rfl, rfl, rfl⟩ rfl rfl rfl rfl rfl (by kernel_rfl) Try.func5 (by kernel_rfl)
    (of_decide_eq_true (by kernel_rfl)) (by unfold Func.isWrapper; first | (rw [if_pos (by decide +kernel)]; kernel_rfl) | (rw [if_neg (by decide +kernel)]; exact ⟨rfl, rfl⟩))
    (fun os started H enc _ => lifted os started H enc)

theorem proved : Rows.TreeDropsSaid := over
end Go.Proofs.Ytboojbnnjbmnoaa.treeDrops
namespace Go.Proofs.Ytboojbnnjbmnoaa
theorem treeDrops_holds : Rows.TreeDropsSaid := treeDrops.proved
#print axioms treeDrops_holds
end Go.Proofs.Ytboojbnnjbmnoaa
