/- TreeDoes: whatever slots come, go and move, in any order: each answer, and what comes of what, are what the chapter says; no condition. -/
import Derived.Test.YtboojbnnjbmnoaaBoth
import Derived.Deep.Cut
import Derived.Deep.DeepCutAuto
import Derived.Test.YtboojbnnjbmnoaaArgs
import Derived.ProofKit
import Derived.OpenShut
import Derived.ShutString
import Derived.ChangeOld
import Derived.Below
import Derived.Deep.Slices
namespace Go.Proofs.Ytboojbnnjbmnoaa.treeDoes
open Go.ChangeShapes Go.WideShapes Go.ChangeAt Go.RowKit
set_option linter.unusedVariables false

theorem own : ownKnob Try.prog.godebug = none := by kernel_rfl
theorem laidOut : laidOutB Try.prog = true := by kernel_rfl

theorem bothNew {w w1 : World} {p : Nat} (A : TAt w1 p (fun i => w.heap.size ≤ i ∧ i < w1.heap.size) .nil) (g : w.grownBy w1 none) :
    ∃ W, w1.alloc (.cells #[.slice none 0 0] 28) = W ∧ Acted w W p w1.heap.size 0 := by
  refine ⟨_, rfl, _, fun i => i = w1.heap.size, .nil, ⟨A.kept (gbAlloc _ _ _), ⟨.slice none 0 0, ⟨?_, Lst3.nil _ _⟩, rfl, fun g e => (nomatch e)⟩, ?_, ?_, ?_, gbTrans g (gbAlloc _ _ _), Good.nil, Good.nil⟩, Nat.le_refl _⟩
  · exact Deep.blk_alloc_new _ _
  · intro i hi e; have := hi.2; omega
  · intro i hi; have := hi.1; have := hi.2; simp; omega
  · intro i hi; have := g.size; simp; omega

set_option maxRecDepth 10000 in
set_option maxHeartbeats 4000000 in
theorem core (xo : Option Addr) (len cap : Nat) (w : World) (HX : Hid (∀ i, i < len → ∃ x k m n s t, xo = some x ∧ El5 w (x.add (i * 5)) k m n s t ∧ Op5 m n s t)) :
    Calls Try.prog 3 #[.slice xo len cap] w fun e w' => e = .returned (.bool true) ∧ w.grownBy w' none := by
  go_enter Try.func3, Try.ntmps3
  go_wp2_with fail
  refine (new_is w).mono ?_
  rintro _ w1 ⟨p, rfl, A, g1⟩
  obtain ⟨W, hW, hA⟩ := bothNew A g1
  have HA := hideIt hA
  go_wp2
  obtain ⟨q, hq⟩ : ∃ q, q = w1.heap.size := ⟨_, rfl⟩
  rw [← hq] at HA ⊢
  clear hW hA hq A g1
  go_loopg [5] 60 (fun y i wr => ∃ j : Nat, j + y = 60 ∧ i = .int .i64 j ∧ Hid (Acted w wr p q j))
  case atStart => exact ⟨0, by omega, rfl, HA⟩
  case round =>
    obtain ⟨j, hj, rfl, HG⟩ := hrel
    by_cases hlt : j < len ∧ j < 60
    · obtain ⟨hlt, hlt2⟩ := hlt
      have hlt' : (j : Int) < (len : Int) := by omega
      have hlt2' : (j : Int) < 60 := by omega
      obtain ⟨x, k, a, b, c, d, rfl, E0, ho⟩ := HX.out j hlt
      obtain ⟨P, R, f, hb, hf⟩ := HG.out
      have HB := hideIt hb
      have HF := hideIt hf
      have HE := hideIt E0
      have HO := hideIt ho
      clear hb hf
      obtain ⟨e0, e1, e2, e3, e4⟩ := E0.kept HB.out.gr
      clear E0 ho
      go_wp2_with fail
      refine (act_is HB.out (by have := HF.out; omega) k a b c d HO.out).mono ?_
      rintro _ w2 ⟨rfl, hA2⟩
      clear e0 e1 e2 e3 e4
      obtain ⟨P2, R2, f2, hb2, hf2⟩ := hA2
      have HB2 := hideIt hb2
      have hf2' : Hid (f2.len ≤ j + 1) := hideIt (by have := HF.out; omega)
      have hf60 : Hid (f2.len ≤ 60) := hideIt (by have := HF.out; omega)
      obtain ⟨e0, e1, e2, e3, e4⟩ := HE.out.kept HB2.out.gr
      clear hb2 hf2
      go_wp2_with fail
      refine (same9_is HB2 hf60 a b HO.out.a HO.out.b).mono ?_
      rintro _ w3 ⟨rfl, g3⟩
      clear e0 e1 e2 e3 e4
      have HB3 := hideIt (HB2.out.kept g3)
      obtain ⟨e0, e1, e2, e3, e4⟩ := HE.out.kept HB3.out.gr
      go_wp2_with fail
      refine (same9_is HB3 hf60 c d HO.out.c HO.out.d).mono ?_
      rintro _ w4 ⟨rfl, g4⟩
      have HA4 : Hid (Acted w w4 p q (j + 1)) := hideIt ⟨_, _, _, HB3.out.kept g4, hf2'.out⟩
      clear e0 e1 e2 e3 e4
      go_wp2
      go_roundg (gk - 1)
      case rel => exact ⟨j + 1, by omega, by go_num, HA4⟩
      case measure => omega
    · obtain ⟨P, R, f, hb, hf⟩ := HG.out
      have hf60 : Hid (f.len ≤ 60) := hideIt (by omega)
      obtain ⟨n, hn⟩ : ∃ n, f.len = n := ⟨_, rfl⟩
      have hn60 : n ≤ 60 := by have := hf60.out; omega
      have HB := hideIt hb
      obtain ⟨vr, HRA, hrq, hrg⟩ := hb.rp
      have hfn : (f.flat 0).length = n := by rw [Fo.flat_len]; exact hn
      obtain ⟨xr, cr, hvr⟩ := HRA.row.any hfn
      subst hvr
      have HR := hideIt HRA
      have HN := hideIt hfn
      have HFst := hideIt (Fo.flat_fst f 0)
      clear hb hf HRA hrq hrg hfn hn
      go_upto_region 5 with fail
      go_cut [19] (fun s wc => s = .bool false ∧ wc = wr)
      case first =>
        by_cases k1 : (j : Int) < (len : Int)
        · have k2 : ¬ (j : Int) < 60 := by omega
          go_wp2
          go_meet
          exact ⟨rfl, rfl⟩
        · go_wp2
          go_meet
          exact ⟨rfl, rfl⟩
      case rest =>
      obtain ⟨rfl, rfl⟩ := hcut
      obtain ⟨wo, hwo⟩ : ∃ wo, wo = wc := ⟨_, rfl⟩
      subst hwo
      clear hlt hj HG
      go_wp2
      go_loopg [6] n (fun y i wr => ∃ c : Nat, c + y = n ∧ i = .int .i64 c ∧ wo.grownBy wr none)
      case atStart => exact ⟨0, by omega, rfl, gbRefl _ _⟩
      case round =>
        obtain ⟨c, hc, rfl, gw⟩ := hrel
        have x0 := (HR.out.kept gw).cell
        by_cases hcn : c < n
        · have hcn' : (c : Int) < (n : Int) := by omega
          obtain ⟨g, rfl⟩ := HR.out.some HN.out hcn
          obtain ⟨⟨⟨a, b⟩, d⟩, hab⟩ : ∃ z, (f.flat 0)[c]? = some z := ⟨_, List.getElem?_eq_getElem (by rw [HN.out]; exact hcn)⟩
          have hin : (a, b) ∈ f.pre := by
            rw [← HFst.out]; exact List.mem_map.2 ⟨_, List.mem_of_getElem? hab, rfl⟩
          obtain ⟨ia, ib⟩ := HB.out.gt.num _ hin
          simp only at ia ib
          obtain ⟨e0, e1, e2⟩ := (HR.out.kept gw).row.el HN.out c _ hab
          simp only at e0 e1
          have HB3 := hideIt (HB.out.kept gw)
          clear hab hin e2
          go_wp2_with fail
          refine (same9_is HB3 hf60 a b ia ib).mono ?_
          rintro _ w4 ⟨rfl, g4⟩
          clear e0 e1 x0
          go_wp2
          go_roundg (gk - 1)
          case rel => exact ⟨c + 1, by omega, by go_num, gbTrans gw g4⟩
          case measure => omega
        · have hcn' : ¬ (c : Int) < (n : Int) := by omega
          go_wp2
          go_ret
          exact ⟨rfl, gbTrans HB.out.gr gw⟩

theorem walk (xo : Option Addr) (len cap : Nat) (w : World) (hx : ∀ i, i < len → ∃ x k m n s t, xo = some x ∧ El5 w (x.add (i * 5)) k m n s t ∧ Op5 m n s t) :
    Calls Try.prog 3 #[.slice xo len cap] w fun e w' => e = .returned (.bool true) ∧ Below w.heap.size w w' :=
  (core xo len cap w (hideIt hx)).mono fun _ _ ⟨h1, h2⟩ => ⟨h1, gbEnd h2⟩

set_option maxRecDepth 100000 in
theorem lifted (os : Os) (started : os.Started) (H : Type) (enc : TypeId × Value → H) :
    ReturnsInHanded {} Try.checked os 3 .any (Rows.treeDoesSpec.pre6 enc Try.prog Try.f3 Rows.treeDoesRow.domain false) (Rows.treeDoesSpec.post enc Try.prog Try.f3 false true false false) := by
  refine returnsInHanded_of_change (C := Try.checked) own started (by kernel_rfl) Try.func3
    (ChangeSpec.witness6 (enc := enc) (C := Try.checked) false ⟨#[], #[.slice none 0 0], []⟩ 8 (by kernel_rfl) (by kernel_rfl) (by kernel_rfl) (by kernel_rfl)) ?_
  intro W base args ds gs before hval0 hW hcnd _
  have hval : ∀ (j : Nat) t v, Try.f3.params[j]? = some t → args[j]? = some v → Value.okWide Try.prog W .any base t v := hval0
  have hW' := hW
  obtain ⟨p, q, hA0, hV, rfl, hfz, hnd⟩ := hW
  have hA : DataW.TrodAll enc Try.prog W 0 (fun _ => true) true Try.f3.params.toList args.toList ds p := hA0
  rw [Try.params3] at hA hval
  obtain ⟨v0, vs0, d0, ds0, p0, q0, hargs, rfl, rfl, h0, r0⟩ := trodAll_cons hA
  obtain ⟨rfl, rfl, rfl⟩ := trodAll_nil r0
  obtain rfl : args = #[v0] := by cases args; simp_all
  obtain ⟨rfl, rfl⟩ := trodVars_none hV
  obtain ⟨x0, len0, cap0, rfl⟩ := okWide_slice Try.underlying22 (hval 0 22 v0 rfl rfl)
  have hx0 := opsArg h0
  have k0 := h0
  have lt0 : ∀ x ∈ p0, x.block < W.heap.size := by obtain ⟨m, hm⟩ := k0; exact DataW.trod_lt m _ _ _ hm
  clear hA0 hval0
  refine (walk x0 len0 cap0 W hx0).mono fun e W' ⟨he, bel⟩ => ?_
  subst he
  exact ⟨_, rfl, _, _, _, [], _, [], hW', trodAll_mk1 (shut_bool Try.underlying4 _), (trodAll_cons_mk (Below.trod laidOut (by kernel_rfl) (of_decide_eq_true (by kernel_rfl)) k0 bel lt0) trodAll_mk0), rfl, bel.frame _, fun h => by cases h⟩

theorem over : Rows.treeDoesRow.holds Try.pinned (OpenSpec.ofChange Rows.treeDoesSpec) :=
  OpenClaim.holds_of_wide 3 Try.f3 rfl rfl rfl rfl rfl rfl rfl ⟨rfl, rfl, rfl, rfl, rfl⟩ rfl rfl rfl rfl rfl (by kernel_rfl) Try.func3 (by kernel_rfl)
    (of_decide_eq_true (by kernel_rfl)) (by unfold Func.isWrapper; first | (rw [if_pos (by decide +kernel)]; kernel_rfl) | (rw [if_neg (by decide +kernel)]; exact ⟨rfl, rfl⟩))
    (fun os started H enc _ => lifted os started H enc)

theorem proved : Rows.TreeDoesSaid := over
end Go.Proofs.Ytboojbnnjbmnoaa.treeDoes
namespace Go.Proofs.Ytboojbnnjbmnoaa
theorem treeDoes_holds : Rows.TreeDoesSaid := treeDoes.proved
#print axioms treeDoes_holds
end Go.Proofs.Ytboojbnnjbmnoaa
