/- MovesDoes holds for every input: whatever acts come in (at most sixty are played), the program's capabilities and the document's answer each act alike, and tell the same radixes, counts and kin; and behind them Cap, Find and Slot of both say the same. No condition. -/
import Derived.Test.YtdnoidnpiaadaaaGreatG24
import Derived.Test.YtdnoidnpiaadaaaGreatG8
import Derived.Deep.Cut
import Derived.Deep.CutRange
import Derived.Deep.DeepCutAuto
import Derived.Deep.RegionHeld3
import Derived.Deep.LoopGhost
import Derived.Test.YtdnoidnpiaadaaaGreatArgs
import Derived.ProofKit
import Derived.OpenShut
import Derived.ShutString
import Derived.ChangeOld
import Derived.Below
import Derived.Deep.Slices
namespace Go.Proofs.YtdnoidnpiaadaaaGreat.movesDoes
open Go.ChangeShapes Go.WideShapes Go.ChangeAt Go.RowKit
set_option linter.unusedVariables false

theorem own : ownKnob Tryz.prog.godebug = none := by kernel_rfl
theorem laidOut : laidOutB Tryz.prog = true := by kernel_rfl

set_option maxRecDepth 10000 in
set_option maxHeartbeats 16000000 in
theorem core (xo : Option Addr) (len cap : Nat) (K1 O1 R1 B1 G1 N1 : Int) (io : I64 O1) (x : Nat) (hp : x < 18446744073709551616) (dp : Int) (w : World) (HX : Hid (∀ i, i < len → ∃ x q, xo = some x ∧ El18 w (x.add (i * 18)) q ∧ Op18 q)) :
    Calls Tryz.prog 3 #[.slice xo len cap, cv ⟨K1, O1, R1, B1, G1, N1⟩, .int .u64 x, .int .i64 dp] w fun e w' => e = .returned (.bool true) ∧ Below w.heap.size w w' := by
  go_enter Tryz.func3, Tryz.ntmps3
  go_upto_region 1 with fail
  obtain ⟨W0, hW0, X0, g0⟩ := boxNew w ⟨K1, O1, R1, B1, G1, N1⟩
  simp only at hW0
  rw [hW0]
  clear hW0
  have HX0 := hideIt X0
  have HG0 := hideIt g0
  clear X0 g0
  go_wp2_with fail
  refine (newCaps (gbRefl W0 none)).mono ?_
  rintro _ w1 ⟨p, s, t, rfl, A1, g1⟩
  have H1 := hideIt A1
  have G1' := hideIt g1
  clear A1 g1
  go_wp2_with fail
  refine (newRc G1'.out).mono ?_
  rintro _ w2 ⟨q, rfl, A2, g2⟩
  have HB : Hid (Bh W0 w2 (fun i => W0.heap.size ≤ i ∧ i < w1.heap.size) (fun i => w1.heap.size ≤ i ∧ i < w2.heap.size) p s t 0 q (fun _ => none) .nil (fun _ => none) .nil) := ⟨H1.out.kept g2, A2, fun i hi e => by omega⟩
  clear A2 g2 H1 G1'
  go_wp2
  go_loopg [11] 60 (fun y i wr => ∃ (j : Nat) (S : St) (f : T9.Fo) (P R : Nat → Prop) (m : Nat), j + y = 60 ∧ i = .int .i64 j ∧ Hid (Bh W0 wr P R p s t m q S f S f) ∧ Hid (M.Inv S f) ∧ Hid (f.len ≤ j) ∧ Hid (m ≤ j))
  case atStart => exact ⟨0, _, _, _, _, _, by omega, rfl, HB, M.Inv.none, Nat.le_refl 0, Nat.le_refl 0⟩
  case round =>
    obtain ⟨j, S, f, P, R, m, hj, rfl, HC, HI, HL, HM⟩ := hrel
    by_cases hlt : j < len ∧ j < 60
    · obtain ⟨hlt, hlt2⟩ := hlt
      have hlt' : (j : Int) < (len : Int) := by omega
      have hlt2' : (j : Int) < 60 := by omega
      obtain ⟨x9, qq, rfl, E0, QQ⟩ := HX.out j hlt
      have E := hideIt ((E0.kept HG0.out).kept HC.out.gr)
      clear E0
      go_upto_region 8 with (first | (refine wpList_load_op rfl _ rfl _ qq rfl E.out ?_) | (refine wpList_store_op rfl _ _ rfl _ qq rfl rfl (opZero wr).1 (opZero wr).2 ?_; intro W5 B5 g5))
      have g5' : wr.grownBy W5 none := gbNew (gbTrans (gbAlloc _ _ _) g5) (Nat.le_refl _)
      have HC5 := hideIt (HC.out.kept g5')
      have HN5 := hideIt (Nb.mk (HC.out.out (Nat.le_refl _)).1 (HC.out.out (Nat.le_refl _)).2 B5.lt)
      have HX5 := hideIt B5
      have hm9 : m ≤ 1000 := Nat.le_trans HM.out (by omega)
      have hl9 : f.len ≤ 59 := Nat.le_trans HL.out (by omega)
      clear HC g5 g5' E B5
      obtain ⟨k0, a, a2, b, b2, d, d2, ⟨ck, co, cr, cb, cg, cn⟩, n, rt, bd, gd, bt⟩ := qq
      have HQ := hideIt QQ
      clear QQ
      try dsimp only [List.append]
      have T0 : Sx W5.drew p s t wr.heap.size ⟨k0, a, a2, b, b2, d, d2, ⟨ck, co, cr, cb, cg, cn⟩, n, rt, bd, gd, bt⟩ := sx_of (HC5.out.kept (gbDrewN W5 1 none)) (HX5.out.kept (gbDrewN W5 1 none))
      refine wp_region_noPanic ?_
      refine Plan.begin_m (S := fun w' => Sx w' p s t wr.heap.size ⟨k0, a, a2, b, b2, d, d2, ⟨ck, co, cr, cb, cg, cn⟩, n, rt, bd, gd, bt⟩) (pl := [(0, 1180591620717411303423), (0, 1180591620717411303422), (0, 1180591620717411303420), (7, 0), (8, 1180591620717411303408), (24, 1180591620717411303392), (32, 1180591620717411303360), (32, 1180591620717411303296), (224, 0), (288, 1180591620717411302912), (544, 1180591620717411302400), (1280, 1180591620717411301376), (2048, 1180591620717411299328), (6144, 1180591620717411295232), (10240, 1180591620717411287040), (18432, 1180591620717411270656), (2048, 1180591620717411237888), (67584, 1180591620717411172352), (133120, 1180591620717411041280), (296960, 0), (2048, 1180591620717410779136), (1050624, 1180591620717409730560), (2099200, 1180591620717407633408), (2048, 1180591620717403439104), (8390656, 1180591620717395050496), (16779264, 1180591620717378273280), (38275072, 0), (67635200, 1180591620717277085696), (134219776, 1180591620717142867968), (335544320, 1180591620716874432512), (536870912, 1180591620716337561600), (1610612736, 1180591620715263819776), (2684354560, 1180591620713116336128), (4831838208, 1180591620708821368832), (536870912, 1180591620700231434240), (17716740096, 1180591620683051565056), (34896609280, 1180591620648691826688), (536870912, 1180591620579972349952), (137975824384, 1180591620442533396480), (275414777856, 1180591620167655489536), (627602096128, 0), (536870912, 1180591619617899675648), (2199560126464, 1180591617418876420096), (4398583382016, 1180591613020829908992), (536870912, 1180591604224736886784), (17592722915328, 1180591586632550842368), (35184908959744, 1180591551448178753536), (536870912, 1180591481079434575872), (140738025226240, 1180591340341946220544), (281475513581568, 1180591058866969509888), (643214839119872, 0), (1126999955341312, 1180589368917597618176), (2251800350556160, 1180587117117783932928), (5629499534213120, 1180582613518156562432), (9007199254740992, 1180573606318901821440), (27021597764222976, 1180555591920392339456), (45035996273704960, 1180519563123373375488), (81064793292668928, 1180447505529335447552), (9007199254740992, 1180303390341259591680), (297237575406452736, 1180015159965107879936), (729583139634020352, 0), (9007199254740992, 1179438699212804456448), (2314850208468434944, 1177132856203590762496), (4620693217682128896, 1172521170185163374592), (9007199254740992, 1163297798148308598784), (18455751272964292608, 1144851054074599047168), (47278788888135467008, 0), (74948904998699794432, 0), (147582959788931153920, 885443715538058477568), (295156912378607566848, 590295810358705651712)]) (n := 70) (by as_aux_lemma => kernel_rfl) ⟨rfl, (by as_aux_lemma => kernel_rfl), (by as_aux_lemma => kernel_rfl)⟩ (T0) (fun HPl hHeld => ?_)
      refine Plan.take_m HPl (i := 0) (m' := 1) (v := ?v0) (Plan.At.head) rfl (by kernel_rfl) (fun _ _ _ h => h) (Or.inl ⟨by rfl, ?hy0⟩) (by assumption) ?re0
      case hy0 => (intro w hSw; (try dsimp only at hSw); go_simp; (try with_reducible rfl))
      try simp only [Act.put, List.setIfInBounds_toArray, List.set_cons_zero, List.set_cons_succ]
      refine Plan.take_m HPl (i := 1) (m' := 3) (v := ?v1) (Plan.At.tail (Plan.At.head)) rfl (by kernel_rfl) (fun _ _ _ h => h) (Or.inl ⟨by rfl, ?hy1⟩) (by assumption) ?re1
      case hy1 => (intro w hSw; (try dsimp only at hSw); go_simp; (try with_reducible rfl))
      try simp only [Act.put, List.setIfInBounds_toArray, List.set_cons_zero, List.set_cons_succ]
      refine Plan.take_m HPl (i := 2) (m' := 7) (v := .agg (qcs ⟨k0, a, a2, b, b2, d, d2, ⟨ck, co, cr, cb, cg, cn⟩, n, rt, bd, gd, bt⟩).toArray) (Plan.At.tail (Plan.At.tail (Plan.At.head))) rfl (by kernel_rfl) (fun _ _ _ h => h) (Or.inl ⟨by rfl, ?hy2⟩) (by assumption) ?re2
      case hy2 => (intro w hSw; refine exec_load_op (o := _) (a := _) (w := w) (x := .tmp 12) (q := ⟨k0, a, a2, b, b2, d, d2, ⟨ck, co, cr, cb, cg, cn⟩, n, rt, bd, gd, bt⟩) ?_ ?_ (sx_el hSw) <;> rfl)
      dsimp only [qcs]
      try simp only [Act.put, List.setIfInBounds_toArray, List.set_cons_zero, List.set_cons_succ]
      refine Plan.only_m HPl (i := 3) (m' := 15) (Plan.At.tail (Plan.At.tail (Plan.At.tail (Plan.At.head)))) (by kernel_rfl) (by kernel_rfl) (fun K hK => ?st3)
      go_simp
      (go_at_call 7; refine (act_ex (HC5.out.kept (gbDrewN W5 1 none)) HI.out k0 a a2 b b2 d d2 ck co cr cb cg cn n rt bd gd bt HQ.out hm9 hl9).mono ?_; rintro _ wa ⟨P2, R2, m2, S2, f2, rfl, B2, I2, l2, n2, F2⟩; have HBa := hideIt B2; have HIa := hideIt I2; have HLa := hideIt (Nat.le_trans l2 (Nat.succ_le_succ HL.out)); have HMa := hideIt (Nat.le_trans n2 (Nat.succ_le_succ HM.out)); have HXa := hideIt (F2.obox (HX5.out.kept (gbDrewN W5 1 none)) (HN5.out.kept (gbDrewN W5 1 none))); have hla : f2.len ≤ 60 := Nat.le_trans HLa.out hlt2; have hla2 : f2.len ≤ 1000 := Nat.le_trans hla (by decide); have T1 : Sx wa p s t wr.heap.size ⟨k0, a, a2, b, b2, d, d2, ⟨ck, co, cr, cb, cg, cn⟩, n, rt, bd, gd, bt⟩ := sx_of HBa.out HXa.out; obtain ⟨rr, hrr⟩ : ∃ z, M.rad S2 a = z := ⟨_, rfl⟩; obtain ⟨cc, hcc⟩ : ∃ z, (M.cnt S2 ck co : Int) = z := ⟨_, rfl⟩; have HRR := hideIt (And.intro hrr hcc); clear B2 I2 l2 n2 F2 hrr hcc)
      (try go_wp2_with fail)
      refine hK.out _ _ ?sS3 (fun hHeld3 => ?rr3)
      case sS3 => ((try dsimp only); exact T1)
      clear hK K hHeld
      have hHeld := hHeld3
      clear hHeld3
      try simp only [Act.put, List.setIfInBounds_toArray, List.set_cons_zero, List.set_cons_succ]
      refine Plan.take_m HPl (i := 4) (m' := 31) (v := ?v4) (Plan.At.tail (Plan.At.tail (Plan.At.tail (Plan.At.tail (Plan.At.head))))) rfl (by kernel_rfl) (fun _ _ _ h => h) (Or.inl ⟨by rfl, ?hy4⟩) (by assumption) ?re4
      case hy4 => (intro w hSw; (try dsimp only at hSw); go_simp; (try with_reducible rfl))
      try simp only [Act.put, List.setIfInBounds_toArray, List.set_cons_zero, List.set_cons_succ]
      refine Plan.take_m HPl (i := 5) (m' := 63) (v := ?v5) (Plan.At.tail (Plan.At.tail (Plan.At.tail (Plan.At.tail (Plan.At.tail (Plan.At.head)))))) rfl (by kernel_rfl) (fun _ _ _ h => h) (Or.inl ⟨by rfl, ?hy5⟩) (by assumption) ?re5
      case hy5 => (intro w hSw; (try dsimp only at hSw); go_simp; (try with_reducible rfl))
      try simp only [Act.put, List.setIfInBounds_toArray, List.set_cons_zero, List.set_cons_succ]
      refine Plan.take_m HPl (i := 6) (m' := 127) (v := ?v6) (Plan.At.tail (Plan.At.tail (Plan.At.tail (Plan.At.tail (Plan.At.tail (Plan.At.tail (Plan.At.head))))))) rfl (by kernel_rfl) (fun _ _ _ h => h) (Or.inl ⟨by rfl, ?hy6⟩) (by assumption) ?re6
      case hy6 => (intro w hSw; (try dsimp only at hSw); go_simp; (try with_reducible rfl))
      try simp only [Act.put, List.setIfInBounds_toArray, List.set_cons_zero, List.set_cons_succ]
      refine Plan.take_m HPl (i := 7) (m' := 255) (v := ?v7) (Plan.At.tail (Plan.At.tail (Plan.At.tail (Plan.At.tail (Plan.At.tail (Plan.At.tail (Plan.At.tail (Plan.At.head)))))))) rfl (by kernel_rfl) (fun _ _ _ h => h) (Or.inl ⟨by rfl, ?hy7⟩) (by assumption) ?re7
      case hy7 => (intro w hSw; (try dsimp only at hSw); go_simp; (try with_reducible rfl))
      try simp only [Act.put, List.setIfInBounds_toArray, List.set_cons_zero, List.set_cons_succ]
      refine Plan.only_m HPl (i := 8) (m' := 511) (Plan.At.tail (Plan.At.tail (Plan.At.tail (Plan.At.tail (Plan.At.tail (Plan.At.tail (Plan.At.tail (Plan.At.tail (Plan.At.head))))))))) (by kernel_rfl) (by kernel_rfl) (fun K hK => ?st8)
      go_simp
      (go_at_call 8; refine (same10_is HBa.out hla).mono ?_; rintro _ wb ⟨rfl, gzb⟩; have HBb := hideIt (HBa.out.kept gzb); have HXb := hideIt (HXa.out.kept gzb); have T2 : Sx wb p s t wr.heap.size ⟨k0, a, a2, b, b2, d, d2, ⟨ck, co, cr, cb, cg, cn⟩, n, rt, bd, gd, bt⟩ := sx_of HBb.out HXb.out; clear gzb)
      (try go_wp2_with fail)
      refine hK.out _ _ ?sS8 (fun hHeld8 => ?rr8)
      case sS8 => ((try dsimp only); exact T2)
      clear hK K hHeld
      have hHeld := hHeld8
      clear hHeld8
      try simp only [Act.put, List.setIfInBounds_toArray, List.set_cons_zero, List.set_cons_succ]
      refine Plan.take_m HPl (i := 9) (m' := 1023) (v := ?v9) (Plan.At.tail (Plan.At.tail (Plan.At.tail (Plan.At.tail (Plan.At.tail (Plan.At.tail (Plan.At.tail (Plan.At.tail (Plan.At.tail (Plan.At.head)))))))))) rfl (by kernel_rfl) (fun _ _ _ h => h) (Or.inl ⟨by rfl, ?hy9⟩) (by assumption) ?re9
      case hy9 => (intro w hSw; (try dsimp only at hSw); go_simp; (try with_reducible rfl))
      try simp only [Act.put, List.setIfInBounds_toArray, List.set_cons_zero, List.set_cons_succ]
      refine Plan.take_m HPl (i := 10) (m' := 2047) (v := ?v10) (Plan.At.tail (Plan.At.tail (Plan.At.tail (Plan.At.tail (Plan.At.tail (Plan.At.tail (Plan.At.tail (Plan.At.tail (Plan.At.tail (Plan.At.tail (Plan.At.head))))))))))) rfl (by kernel_rfl) (fun _ _ _ h => h) (Or.inl ⟨by rfl, ?hy10⟩) (by assumption) ?re10
      case hy10 => (intro w hSw; (try dsimp only at hSw); go_simp; (try with_reducible rfl))
      try simp only [Act.put, List.setIfInBounds_toArray, List.set_cons_zero, List.set_cons_succ]
      refine Plan.take_m HPl (i := 11) (m' := 4095) (v := ?v11) (Plan.At.tail (Plan.At.tail (Plan.At.tail (Plan.At.tail (Plan.At.tail (Plan.At.tail (Plan.At.tail (Plan.At.tail (Plan.At.tail (Plan.At.tail (Plan.At.tail (Plan.At.head)))))))))))) rfl (by kernel_rfl) (fun _ _ _ h => h) (Or.inl ⟨by rfl, ?hy11⟩) (by assumption) ?re11
      case hy11 => (intro w hSw; (try dsimp only at hSw); go_simp; (try with_reducible rfl))
      try simp only [Act.put, List.setIfInBounds_toArray, List.set_cons_zero, List.set_cons_succ]
      refine Plan.take_m HPl (i := 12) (m' := 8191) (v := ?v12) (Plan.At.tail (Plan.At.tail (Plan.At.tail (Plan.At.tail (Plan.At.tail (Plan.At.tail (Plan.At.tail (Plan.At.tail (Plan.At.tail (Plan.At.tail (Plan.At.tail (Plan.At.tail (Plan.At.head))))))))))))) rfl (by kernel_rfl) (fun _ _ _ h => h) (Or.inl ⟨by rfl, ?hy12⟩) (by assumption) ?re12
      case hy12 => (intro w hSw; (try dsimp only at hSw); go_simp; (try with_reducible rfl))
      try simp only [Act.put, List.setIfInBounds_toArray, List.set_cons_zero, List.set_cons_succ]
      refine Plan.take_m HPl (i := 13) (m' := 16383) (v := ?v13) (Plan.At.tail (Plan.At.tail (Plan.At.tail (Plan.At.tail (Plan.At.tail (Plan.At.tail (Plan.At.tail (Plan.At.tail (Plan.At.tail (Plan.At.tail (Plan.At.tail (Plan.At.tail (Plan.At.tail (Plan.At.head)))))))))))))) rfl (by kernel_rfl) (fun _ _ _ h => h) (Or.inl ⟨by rfl, ?hy13⟩) (by assumption) ?re13
      case hy13 => (intro w hSw; (try dsimp only at hSw); go_simp; (try with_reducible rfl))
      try simp only [Act.put, List.setIfInBounds_toArray, List.set_cons_zero, List.set_cons_succ]
      refine Plan.take_m HPl (i := 14) (m' := 32767) (v := ?v14) (Plan.At.tail (Plan.At.tail (Plan.At.tail (Plan.At.tail (Plan.At.tail (Plan.At.tail (Plan.At.tail (Plan.At.tail (Plan.At.tail (Plan.At.tail (Plan.At.tail (Plan.At.tail (Plan.At.tail (Plan.At.tail (Plan.At.head))))))))))))))) rfl (by kernel_rfl) (fun _ _ _ h => h) (Or.inl ⟨by rfl, ?hy14⟩) (by assumption) ?re14
      case hy14 => (intro w hSw; (try dsimp only at hSw); go_simp; (try with_reducible rfl))
      try simp only [Act.put, List.setIfInBounds_toArray, List.set_cons_zero, List.set_cons_succ]
      refine Plan.take_m HPl (i := 15) (m' := 65535) (v := ?v15) (Plan.At.tail (Plan.At.tail (Plan.At.tail (Plan.At.tail (Plan.At.tail (Plan.At.tail (Plan.At.tail (Plan.At.tail (Plan.At.tail (Plan.At.tail (Plan.At.tail (Plan.At.tail (Plan.At.tail (Plan.At.tail (Plan.At.tail (Plan.At.head)))))))))))))))) rfl (by kernel_rfl) (fun _ _ _ h => h) (Or.inl ⟨by rfl, ?hy15⟩) (by assumption) ?re15
      case hy15 => (intro w hSw; (try dsimp only at hSw); go_simp; (try with_reducible rfl))
      try simp only [Act.put, List.setIfInBounds_toArray, List.set_cons_zero, List.set_cons_succ]
      refine Plan.take_m HPl (i := 16) (m' := 131071) (v := ?v16) (Plan.At.tail (Plan.At.tail (Plan.At.tail (Plan.At.tail (Plan.At.tail (Plan.At.tail (Plan.At.tail (Plan.At.tail (Plan.At.tail (Plan.At.tail (Plan.At.tail (Plan.At.tail (Plan.At.tail (Plan.At.tail (Plan.At.tail (Plan.At.tail (Plan.At.head))))))))))))))))) rfl (by kernel_rfl) (fun _ _ _ h => h) (Or.inl ⟨by rfl, ?hy16⟩) (by assumption) ?re16
      case hy16 => (intro w hSw; (try dsimp only at hSw); go_simp; (try with_reducible rfl))
      try simp only [Act.put, List.setIfInBounds_toArray, List.set_cons_zero, List.set_cons_succ]
      refine Plan.take_m HPl (i := 17) (m' := 262143) (v := ?v17) (Plan.At.tail (Plan.At.tail (Plan.At.tail (Plan.At.tail (Plan.At.tail (Plan.At.tail (Plan.At.tail (Plan.At.tail (Plan.At.tail (Plan.At.tail (Plan.At.tail (Plan.At.tail (Plan.At.tail (Plan.At.tail (Plan.At.tail (Plan.At.tail (Plan.At.tail (Plan.At.head)))))))))))))))))) rfl (by kernel_rfl) (fun _ _ _ h => h) (Or.inl ⟨by rfl, ?hy17⟩) (by assumption) ?re17
      case hy17 => (intro w hSw; (try dsimp only at hSw); go_simp; (try with_reducible rfl))
      try simp only [Act.put, List.setIfInBounds_toArray, List.set_cons_zero, List.set_cons_succ]
      refine Plan.take_m HPl (i := 18) (m' := 524287) (v := ?v18) (Plan.At.tail (Plan.At.tail (Plan.At.tail (Plan.At.tail (Plan.At.tail (Plan.At.tail (Plan.At.tail (Plan.At.tail (Plan.At.tail (Plan.At.tail (Plan.At.tail (Plan.At.tail (Plan.At.tail (Plan.At.tail (Plan.At.tail (Plan.At.tail (Plan.At.tail (Plan.At.tail (Plan.At.head))))))))))))))))))) rfl (by kernel_rfl) (fun _ _ _ h => h) (Or.inl ⟨by rfl, ?hy18⟩) (by assumption) ?re18
      case hy18 => (intro w hSw; (try dsimp only at hSw); go_simp; (try with_reducible rfl))
      try simp only [Act.put, List.setIfInBounds_toArray, List.set_cons_zero, List.set_cons_succ]
      refine Plan.take_m HPl (i := 20) (m' := 1572863) (v := ?v20) (Plan.At.tail (Plan.At.tail (Plan.At.tail (Plan.At.tail (Plan.At.tail (Plan.At.tail (Plan.At.tail (Plan.At.tail (Plan.At.tail (Plan.At.tail (Plan.At.tail (Plan.At.tail (Plan.At.tail (Plan.At.tail (Plan.At.tail (Plan.At.tail (Plan.At.tail (Plan.At.tail (Plan.At.tail (Plan.At.tail (Plan.At.head))))))))))))))))))))) rfl (by kernel_rfl) (fun _ _ _ h => h) (Or.inl ⟨by rfl, ?hy20⟩) (by assumption) ?re20
      case hy20 => (intro w hSw; (try dsimp only at hSw); go_simp; (try with_reducible rfl))
      try simp only [Act.put, List.setIfInBounds_toArray, List.set_cons_zero, List.set_cons_succ]
      refine Plan.take_m HPl (i := 21) (m' := 3670015) (v := ?v21) (Plan.At.tail (Plan.At.tail (Plan.At.tail (Plan.At.tail (Plan.At.tail (Plan.At.tail (Plan.At.tail (Plan.At.tail (Plan.At.tail (Plan.At.tail (Plan.At.tail (Plan.At.tail (Plan.At.tail (Plan.At.tail (Plan.At.tail (Plan.At.tail (Plan.At.tail (Plan.At.tail (Plan.At.tail (Plan.At.tail (Plan.At.tail (Plan.At.head)))))))))))))))))))))) rfl (by kernel_rfl) (fun _ _ _ h => h) (Or.inl ⟨by rfl, ?hy21⟩) (by assumption) ?re21
      case hy21 => (intro w hSw; (try dsimp only at hSw); go_simp; (try with_reducible rfl))
      try simp only [Act.put, List.setIfInBounds_toArray, List.set_cons_zero, List.set_cons_succ]
      refine Plan.take_m HPl (i := 22) (m' := 7864319) (v := ?v22) (Plan.At.tail (Plan.At.tail (Plan.At.tail (Plan.At.tail (Plan.At.tail (Plan.At.tail (Plan.At.tail (Plan.At.tail (Plan.At.tail (Plan.At.tail (Plan.At.tail (Plan.At.tail (Plan.At.tail (Plan.At.tail (Plan.At.tail (Plan.At.tail (Plan.At.tail (Plan.At.tail (Plan.At.tail (Plan.At.tail (Plan.At.tail (Plan.At.tail (Plan.At.head))))))))))))))))))))))) rfl (by kernel_rfl) (fun _ _ _ h => h) (Or.inl ⟨by rfl, ?hy22⟩) (by assumption) ?re22
      case hy22 => (intro w hSw; (try dsimp only at hSw); go_simp; (try with_reducible rfl))
      try simp only [Act.put, List.setIfInBounds_toArray, List.set_cons_zero, List.set_cons_succ]
      refine Plan.take_m HPl (i := 23) (m' := 16252927) (v := ?v23) (Plan.At.tail (Plan.At.tail (Plan.At.tail (Plan.At.tail (Plan.At.tail (Plan.At.tail (Plan.At.tail (Plan.At.tail (Plan.At.tail (Plan.At.tail (Plan.At.tail (Plan.At.tail (Plan.At.tail (Plan.At.tail (Plan.At.tail (Plan.At.tail (Plan.At.tail (Plan.At.tail (Plan.At.tail (Plan.At.tail (Plan.At.tail (Plan.At.tail (Plan.At.tail (Plan.At.head)))))))))))))))))))))))) rfl (by kernel_rfl) (fun _ _ _ h => h) (Or.inl ⟨by rfl, ?hy23⟩) (by assumption) ?re23
      case hy23 => (intro w hSw; (try dsimp only at hSw); go_simp; (try with_reducible rfl))
      try simp only [Act.put, List.setIfInBounds_toArray, List.set_cons_zero, List.set_cons_succ]
      refine Plan.take_m HPl (i := 24) (m' := 33030143) (v := ?v24) (Plan.At.tail (Plan.At.tail (Plan.At.tail (Plan.At.tail (Plan.At.tail (Plan.At.tail (Plan.At.tail (Plan.At.tail (Plan.At.tail (Plan.At.tail (Plan.At.tail (Plan.At.tail (Plan.At.tail (Plan.At.tail (Plan.At.tail (Plan.At.tail (Plan.At.tail (Plan.At.tail (Plan.At.tail (Plan.At.tail (Plan.At.tail (Plan.At.tail (Plan.At.tail (Plan.At.tail (Plan.At.head))))))))))))))))))))))))) rfl (by kernel_rfl) (fun _ _ _ h => h) (Or.inl ⟨by rfl, ?hy24⟩) (by assumption) ?re24
      case hy24 => (intro w hSw; (try dsimp only at hSw); go_simp; (try with_reducible rfl))
      try simp only [Act.put, List.setIfInBounds_toArray, List.set_cons_zero, List.set_cons_succ]
      refine Plan.take_m HPl (i := 25) (m' := 66584575) (v := ?v25) (Plan.At.tail (Plan.At.tail (Plan.At.tail (Plan.At.tail (Plan.At.tail (Plan.At.tail (Plan.At.tail (Plan.At.tail (Plan.At.tail (Plan.At.tail (Plan.At.tail (Plan.At.tail (Plan.At.tail (Plan.At.tail (Plan.At.tail (Plan.At.tail (Plan.At.tail (Plan.At.tail (Plan.At.tail (Plan.At.tail (Plan.At.tail (Plan.At.tail (Plan.At.tail (Plan.At.tail (Plan.At.tail (Plan.At.head)))))))))))))))))))))))))) rfl (by kernel_rfl) (fun _ _ _ h => h) (Or.inl ⟨by rfl, ?hy25⟩) (by assumption) ?re25
      case hy25 => (intro w hSw; (try dsimp only at hSw); go_simp; (try with_reducible rfl))
      try simp only [Act.put, List.setIfInBounds_toArray, List.set_cons_zero, List.set_cons_succ]
      refine Plan.only_m HPl (i := 19) (m' := 67108863) (Plan.At.tail (Plan.At.tail (Plan.At.tail (Plan.At.tail (Plan.At.tail (Plan.At.tail (Plan.At.tail (Plan.At.tail (Plan.At.tail (Plan.At.tail (Plan.At.tail (Plan.At.tail (Plan.At.tail (Plan.At.tail (Plan.At.tail (Plan.At.tail (Plan.At.tail (Plan.At.tail (Plan.At.tail (Plan.At.head)))))))))))))))))))) (by kernel_rfl) (by kernel_rfl) (fun K hK => ?st19)
      go_simp
      (go_at_call 9; refine (HBb.out.cs.radix a rr HQ.out.a HRR.out.1).mono ?_; rintro _ wc ⟨rfl, gzc⟩; have HBc := hideIt (HBb.out.kept gzc); have HXc := hideIt (HXb.out.kept gzc); have T3 : Sx wc p s t wr.heap.size ⟨k0, a, a2, b, b2, d, d2, ⟨ck, co, cr, cb, cg, cn⟩, n, rt, bd, gd, bt⟩ := sx_of HBc.out HXc.out; clear gzc)
      (try go_wp2_with fail)
      refine hK.out _ _ ?sS19 (fun hHeld19 => ?rr19)
      case sS19 => ((try dsimp only); exact T3)
      clear hK K hHeld
      have hHeld := hHeld19
      clear hHeld19
      try simp only [Act.put, List.setIfInBounds_toArray, List.set_cons_zero, List.set_cons_succ]
      refine Plan.only_m HPl (i := 26) (m' := 134217727) (Plan.At.tail (Plan.At.tail (Plan.At.tail (Plan.At.tail (Plan.At.tail (Plan.At.tail (Plan.At.tail (Plan.At.tail (Plan.At.tail (Plan.At.tail (Plan.At.tail (Plan.At.tail (Plan.At.tail (Plan.At.tail (Plan.At.tail (Plan.At.tail (Plan.At.tail (Plan.At.tail (Plan.At.tail (Plan.At.tail (Plan.At.tail (Plan.At.tail (Plan.At.tail (Plan.At.tail (Plan.At.tail (Plan.At.tail (Plan.At.head))))))))))))))))))))))))))) (by kernel_rfl) (by kernel_rfl) (fun K hK => ?st26)
      go_simp
      (go_at_call 10; refine (HBc.out.rc.radix a rr HRR.out.1).mono ?_; rintro _ wd ⟨rfl, gzd⟩; have HBd := hideIt (HBc.out.kept gzd); have HXd := hideIt (HXc.out.kept gzd); have T4 : Sx wd p s t wr.heap.size ⟨k0, a, a2, b, b2, d, d2, ⟨ck, co, cr, cb, cg, cn⟩, n, rt, bd, gd, bt⟩ := sx_of HBd.out HXd.out; clear gzd)
      (try go_wp2_with fail)
      refine hK.out _ _ ?sS26 (fun hHeld26 => ?rr26)
      case sS26 => ((try dsimp only); exact T4)
      clear hK K hHeld
      have hHeld := hHeld26
      clear hHeld26
      try simp only [Act.put, List.setIfInBounds_toArray, List.set_cons_zero, List.set_cons_succ]
      refine Plan.take_m HPl (i := 27) (m' := 268435455) (v := ?v27) (Plan.At.tail (Plan.At.tail (Plan.At.tail (Plan.At.tail (Plan.At.tail (Plan.At.tail (Plan.At.tail (Plan.At.tail (Plan.At.tail (Plan.At.tail (Plan.At.tail (Plan.At.tail (Plan.At.tail (Plan.At.tail (Plan.At.tail (Plan.At.tail (Plan.At.tail (Plan.At.tail (Plan.At.tail (Plan.At.tail (Plan.At.tail (Plan.At.tail (Plan.At.tail (Plan.At.tail (Plan.At.tail (Plan.At.tail (Plan.At.tail (Plan.At.head)))))))))))))))))))))))))))) rfl (by kernel_rfl) (fun _ _ _ h => h) (Or.inl ⟨by rfl, ?hy27⟩) (by assumption) ?re27
      case hy27 => (intro w hSw; (try dsimp only at hSw); go_simp; (try with_reducible rfl))
      try simp only [Act.put, List.setIfInBounds_toArray, List.set_cons_zero, List.set_cons_succ]
      refine Plan.take_m HPl (i := 28) (m' := 536870911) (v := ?v28) (Plan.At.tail (Plan.At.tail (Plan.At.tail (Plan.At.tail (Plan.At.tail (Plan.At.tail (Plan.At.tail (Plan.At.tail (Plan.At.tail (Plan.At.tail (Plan.At.tail (Plan.At.tail (Plan.At.tail (Plan.At.tail (Plan.At.tail (Plan.At.tail (Plan.At.tail (Plan.At.tail (Plan.At.tail (Plan.At.tail (Plan.At.tail (Plan.At.tail (Plan.At.tail (Plan.At.tail (Plan.At.tail (Plan.At.tail (Plan.At.tail (Plan.At.tail (Plan.At.head))))))))))))))))))))))))))))) rfl (by kernel_rfl) (fun _ _ _ h => h) (Or.inl ⟨by rfl, ?hy28⟩) (by assumption) ?re28
      case hy28 => (intro w hSw; (try dsimp only at hSw); go_simp; (try with_reducible rfl))
      try simp only [Act.put, List.setIfInBounds_toArray, List.set_cons_zero, List.set_cons_succ]
      refine Plan.take_m HPl (i := 29) (m' := 1073741823) (v := ?v29) (Plan.At.tail (Plan.At.tail (Plan.At.tail (Plan.At.tail (Plan.At.tail (Plan.At.tail (Plan.At.tail (Plan.At.tail (Plan.At.tail (Plan.At.tail (Plan.At.tail (Plan.At.tail (Plan.At.tail (Plan.At.tail (Plan.At.tail (Plan.At.tail (Plan.At.tail (Plan.At.tail (Plan.At.tail (Plan.At.tail (Plan.At.tail (Plan.At.tail (Plan.At.tail (Plan.At.tail (Plan.At.tail (Plan.At.tail (Plan.At.tail (Plan.At.tail (Plan.At.tail (Plan.At.head)))))))))))))))))))))))))))))) rfl (by kernel_rfl) (fun _ _ _ h => h) (Or.inl ⟨by rfl, ?hy29⟩) (by assumption) ?re29
      case hy29 => (intro w hSw; (try dsimp only at hSw); go_simp; (try with_reducible rfl))
      try simp only [Act.put, List.setIfInBounds_toArray, List.set_cons_zero, List.set_cons_succ]
      refine Plan.take_m HPl (i := 30) (m' := 2147483647) (v := ?v30) (Plan.At.tail (Plan.At.tail (Plan.At.tail (Plan.At.tail (Plan.At.tail (Plan.At.tail (Plan.At.tail (Plan.At.tail (Plan.At.tail (Plan.At.tail (Plan.At.tail (Plan.At.tail (Plan.At.tail (Plan.At.tail (Plan.At.tail (Plan.At.tail (Plan.At.tail (Plan.At.tail (Plan.At.tail (Plan.At.tail (Plan.At.tail (Plan.At.tail (Plan.At.tail (Plan.At.tail (Plan.At.tail (Plan.At.tail (Plan.At.tail (Plan.At.tail (Plan.At.tail (Plan.At.tail (Plan.At.head))))))))))))))))))))))))))))))) rfl (by kernel_rfl) (fun _ _ _ h => h) (Or.inl ⟨by rfl, ?hy30⟩) (by assumption) ?re30
      case hy30 => (intro w hSw; (try dsimp only at hSw); go_simp; (try with_reducible rfl))
      try simp only [Act.put, List.setIfInBounds_toArray, List.set_cons_zero, List.set_cons_succ]
      refine Plan.take_m HPl (i := 31) (m' := 4294967295) (v := ?v31) (Plan.At.tail (Plan.At.tail (Plan.At.tail (Plan.At.tail (Plan.At.tail (Plan.At.tail (Plan.At.tail (Plan.At.tail (Plan.At.tail (Plan.At.tail (Plan.At.tail (Plan.At.tail (Plan.At.tail (Plan.At.tail (Plan.At.tail (Plan.At.tail (Plan.At.tail (Plan.At.tail (Plan.At.tail (Plan.At.tail (Plan.At.tail (Plan.At.tail (Plan.At.tail (Plan.At.tail (Plan.At.tail (Plan.At.tail (Plan.At.tail (Plan.At.tail (Plan.At.tail (Plan.At.tail (Plan.At.tail (Plan.At.head)))))))))))))))))))))))))))))))) rfl (by kernel_rfl) (fun _ _ _ h => h) (Or.inl ⟨by rfl, ?hy31⟩) (by assumption) ?re31
      case hy31 => (intro w hSw; (try dsimp only at hSw); go_simp; (try with_reducible rfl))
      try simp only [Act.put, List.setIfInBounds_toArray, List.set_cons_zero, List.set_cons_succ]
      refine Plan.take_m HPl (i := 32) (m' := 8589934591) (v := ?v32) (Plan.At.tail (Plan.At.tail (Plan.At.tail (Plan.At.tail (Plan.At.tail (Plan.At.tail (Plan.At.tail (Plan.At.tail (Plan.At.tail (Plan.At.tail (Plan.At.tail (Plan.At.tail (Plan.At.tail (Plan.At.tail (Plan.At.tail (Plan.At.tail (Plan.At.tail (Plan.At.tail (Plan.At.tail (Plan.At.tail (Plan.At.tail (Plan.At.tail (Plan.At.tail (Plan.At.tail (Plan.At.tail (Plan.At.tail (Plan.At.tail (Plan.At.tail (Plan.At.tail (Plan.At.tail (Plan.At.tail (Plan.At.tail (Plan.At.head))))))))))))))))))))))))))))))))) rfl (by kernel_rfl) (fun _ _ _ h => h) (Or.inl ⟨by rfl, ?hy32⟩) (by assumption) ?re32
      case hy32 => (intro w hSw; (try dsimp only at hSw); go_simp; (try with_reducible rfl))
      try simp only [Act.put, List.setIfInBounds_toArray, List.set_cons_zero, List.set_cons_succ]
      refine Plan.take_m HPl (i := 33) (m' := 17179869183) (v := ?v33) (Plan.At.tail (Plan.At.tail (Plan.At.tail (Plan.At.tail (Plan.At.tail (Plan.At.tail (Plan.At.tail (Plan.At.tail (Plan.At.tail (Plan.At.tail (Plan.At.tail (Plan.At.tail (Plan.At.tail (Plan.At.tail (Plan.At.tail (Plan.At.tail (Plan.At.tail (Plan.At.tail (Plan.At.tail (Plan.At.tail (Plan.At.tail (Plan.At.tail (Plan.At.tail (Plan.At.tail (Plan.At.tail (Plan.At.tail (Plan.At.tail (Plan.At.tail (Plan.At.tail (Plan.At.tail (Plan.At.tail (Plan.At.tail (Plan.At.tail (Plan.At.head)))))))))))))))))))))))))))))))))) rfl (by kernel_rfl) (fun _ _ _ h => h) (Or.inl ⟨by rfl, ?hy33⟩) (by assumption) ?re33
      case hy33 => (intro w hSw; (try dsimp only at hSw); go_simp; (try with_reducible rfl))
      try simp only [Act.put, List.setIfInBounds_toArray, List.set_cons_zero, List.set_cons_succ]
      refine Plan.take_m HPl (i := 34) (m' := 34359738367) (v := ?v34) (Plan.At.tail (Plan.At.tail (Plan.At.tail (Plan.At.tail (Plan.At.tail (Plan.At.tail (Plan.At.tail (Plan.At.tail (Plan.At.tail (Plan.At.tail (Plan.At.tail (Plan.At.tail (Plan.At.tail (Plan.At.tail (Plan.At.tail (Plan.At.tail (Plan.At.tail (Plan.At.tail (Plan.At.tail (Plan.At.tail (Plan.At.tail (Plan.At.tail (Plan.At.tail (Plan.At.tail (Plan.At.tail (Plan.At.tail (Plan.At.tail (Plan.At.tail (Plan.At.tail (Plan.At.tail (Plan.At.tail (Plan.At.tail (Plan.At.tail (Plan.At.tail (Plan.At.head))))))))))))))))))))))))))))))))))) rfl (by kernel_rfl) (fun _ _ _ h => h) (Or.inl ⟨by rfl, ?hy34⟩) (by assumption) ?re34
      case hy34 => (intro w hSw; (try dsimp only at hSw); go_simp; (try with_reducible rfl))
      try simp only [Act.put, List.setIfInBounds_toArray, List.set_cons_zero, List.set_cons_succ]
      refine Plan.take_m HPl (i := 35) (m' := 68719476735) (v := ?v35) (Plan.At.tail (Plan.At.tail (Plan.At.tail (Plan.At.tail (Plan.At.tail (Plan.At.tail (Plan.At.tail (Plan.At.tail (Plan.At.tail (Plan.At.tail (Plan.At.tail (Plan.At.tail (Plan.At.tail (Plan.At.tail (Plan.At.tail (Plan.At.tail (Plan.At.tail (Plan.At.tail (Plan.At.tail (Plan.At.tail (Plan.At.tail (Plan.At.tail (Plan.At.tail (Plan.At.tail (Plan.At.tail (Plan.At.tail (Plan.At.tail (Plan.At.tail (Plan.At.tail (Plan.At.tail (Plan.At.tail (Plan.At.tail (Plan.At.tail (Plan.At.tail (Plan.At.tail (Plan.At.head)))))))))))))))))))))))))))))))))))) rfl (by kernel_rfl) (fun _ _ _ h => h) (Or.inl ⟨by rfl, ?hy35⟩) (by assumption) ?re35
      case hy35 => (intro w hSw; (try dsimp only at hSw); go_simp; (try with_reducible rfl))
      try simp only [Act.put, List.setIfInBounds_toArray, List.set_cons_zero, List.set_cons_succ]
      refine Plan.take_m HPl (i := 36) (m' := 137438953471) (v := ?v36) (Plan.At.tail (Plan.At.tail (Plan.At.tail (Plan.At.tail (Plan.At.tail (Plan.At.tail (Plan.At.tail (Plan.At.tail (Plan.At.tail (Plan.At.tail (Plan.At.tail (Plan.At.tail (Plan.At.tail (Plan.At.tail (Plan.At.tail (Plan.At.tail (Plan.At.tail (Plan.At.tail (Plan.At.tail (Plan.At.tail (Plan.At.tail (Plan.At.tail (Plan.At.tail (Plan.At.tail (Plan.At.tail (Plan.At.tail (Plan.At.tail (Plan.At.tail (Plan.At.tail (Plan.At.tail (Plan.At.tail (Plan.At.tail (Plan.At.tail (Plan.At.tail (Plan.At.tail (Plan.At.tail (Plan.At.head))))))))))))))))))))))))))))))))))))) rfl (by kernel_rfl) (fun _ _ _ h => h) (Or.inl ⟨by rfl, ?hy36⟩) (by assumption) ?re36
      case hy36 => (intro w hSw; (try dsimp only at hSw); go_simp; (try with_reducible rfl))
      try simp only [Act.put, List.setIfInBounds_toArray, List.set_cons_zero, List.set_cons_succ]
      refine Plan.take_m HPl (i := 37) (m' := 274877906943) (v := ?v37) (Plan.At.tail (Plan.At.tail (Plan.At.tail (Plan.At.tail (Plan.At.tail (Plan.At.tail (Plan.At.tail (Plan.At.tail (Plan.At.tail (Plan.At.tail (Plan.At.tail (Plan.At.tail (Plan.At.tail (Plan.At.tail (Plan.At.tail (Plan.At.tail (Plan.At.tail (Plan.At.tail (Plan.At.tail (Plan.At.tail (Plan.At.tail (Plan.At.tail (Plan.At.tail (Plan.At.tail (Plan.At.tail (Plan.At.tail (Plan.At.tail (Plan.At.tail (Plan.At.tail (Plan.At.tail (Plan.At.tail (Plan.At.tail (Plan.At.tail (Plan.At.tail (Plan.At.tail (Plan.At.tail (Plan.At.tail (Plan.At.head)))))))))))))))))))))))))))))))))))))) rfl (by kernel_rfl) (fun _ _ _ h => h) (Or.inl ⟨by rfl, ?hy37⟩) (by assumption) ?re37
      case hy37 => (intro w hSw; (try dsimp only at hSw); go_simp; (try with_reducible rfl))
      try simp only [Act.put, List.setIfInBounds_toArray, List.set_cons_zero, List.set_cons_succ]
      refine Plan.take_m HPl (i := 38) (m' := 549755813887) (v := ?v38) (Plan.At.tail (Plan.At.tail (Plan.At.tail (Plan.At.tail (Plan.At.tail (Plan.At.tail (Plan.At.tail (Plan.At.tail (Plan.At.tail (Plan.At.tail (Plan.At.tail (Plan.At.tail (Plan.At.tail (Plan.At.tail (Plan.At.tail (Plan.At.tail (Plan.At.tail (Plan.At.tail (Plan.At.tail (Plan.At.tail (Plan.At.tail (Plan.At.tail (Plan.At.tail (Plan.At.tail (Plan.At.tail (Plan.At.tail (Plan.At.tail (Plan.At.tail (Plan.At.tail (Plan.At.tail (Plan.At.tail (Plan.At.tail (Plan.At.tail (Plan.At.tail (Plan.At.tail (Plan.At.tail (Plan.At.tail (Plan.At.tail (Plan.At.head))))))))))))))))))))))))))))))))))))))) rfl (by kernel_rfl) (fun _ _ _ h => h) (Or.inl ⟨by rfl, ?hy38⟩) (by assumption) ?re38
      case hy38 => (intro w hSw; (try dsimp only at hSw); go_simp; (try with_reducible rfl))
      try simp only [Act.put, List.setIfInBounds_toArray, List.set_cons_zero, List.set_cons_succ]
      refine Plan.take_m HPl (i := 39) (m' := 1099511627775) (v := ?v39) (Plan.At.tail (Plan.At.tail (Plan.At.tail (Plan.At.tail (Plan.At.tail (Plan.At.tail (Plan.At.tail (Plan.At.tail (Plan.At.tail (Plan.At.tail (Plan.At.tail (Plan.At.tail (Plan.At.tail (Plan.At.tail (Plan.At.tail (Plan.At.tail (Plan.At.tail (Plan.At.tail (Plan.At.tail (Plan.At.tail (Plan.At.tail (Plan.At.tail (Plan.At.tail (Plan.At.tail (Plan.At.tail (Plan.At.tail (Plan.At.tail (Plan.At.tail (Plan.At.tail (Plan.At.tail (Plan.At.tail (Plan.At.tail (Plan.At.tail (Plan.At.tail (Plan.At.tail (Plan.At.tail (Plan.At.tail (Plan.At.tail (Plan.At.tail (Plan.At.head)))))))))))))))))))))))))))))))))))))))) rfl (by kernel_rfl) (fun _ _ _ h => h) (Or.inl ⟨by rfl, ?hy39⟩) (by assumption) ?re39
      case hy39 => (intro w hSw; (try dsimp only at hSw); go_simp; (try with_reducible rfl))
      try simp only [Act.put, List.setIfInBounds_toArray, List.set_cons_zero, List.set_cons_succ]
      refine Plan.take_m HPl (i := 41) (m' := 3298534883327) (v := ?v41) (Plan.At.tail (Plan.At.tail (Plan.At.tail (Plan.At.tail (Plan.At.tail (Plan.At.tail (Plan.At.tail (Plan.At.tail (Plan.At.tail (Plan.At.tail (Plan.At.tail (Plan.At.tail (Plan.At.tail (Plan.At.tail (Plan.At.tail (Plan.At.tail (Plan.At.tail (Plan.At.tail (Plan.At.tail (Plan.At.tail (Plan.At.tail (Plan.At.tail (Plan.At.tail (Plan.At.tail (Plan.At.tail (Plan.At.tail (Plan.At.tail (Plan.At.tail (Plan.At.tail (Plan.At.tail (Plan.At.tail (Plan.At.tail (Plan.At.tail (Plan.At.tail (Plan.At.tail (Plan.At.tail (Plan.At.tail (Plan.At.tail (Plan.At.tail (Plan.At.tail (Plan.At.tail (Plan.At.head)))))))))))))))))))))))))))))))))))))))))) rfl (by kernel_rfl) (fun _ _ _ h => h) (Or.inl ⟨by rfl, ?hy41⟩) (by assumption) ?re41
      case hy41 => (intro w hSw; (try dsimp only at hSw); go_simp; (try with_reducible rfl))
      try simp only [Act.put, List.setIfInBounds_toArray, List.set_cons_zero, List.set_cons_succ]
      refine Plan.take_m HPl (i := 42) (m' := 7696581394431) (v := ?v42) (Plan.At.tail (Plan.At.tail (Plan.At.tail (Plan.At.tail (Plan.At.tail (Plan.At.tail (Plan.At.tail (Plan.At.tail (Plan.At.tail (Plan.At.tail (Plan.At.tail (Plan.At.tail (Plan.At.tail (Plan.At.tail (Plan.At.tail (Plan.At.tail (Plan.At.tail (Plan.At.tail (Plan.At.tail (Plan.At.tail (Plan.At.tail (Plan.At.tail (Plan.At.tail (Plan.At.tail (Plan.At.tail (Plan.At.tail (Plan.At.tail (Plan.At.tail (Plan.At.tail (Plan.At.tail (Plan.At.tail (Plan.At.tail (Plan.At.tail (Plan.At.tail (Plan.At.tail (Plan.At.tail (Plan.At.tail (Plan.At.tail (Plan.At.tail (Plan.At.tail (Plan.At.tail (Plan.At.tail (Plan.At.head))))))))))))))))))))))))))))))))))))))))))) rfl (by kernel_rfl) (fun _ _ _ h => h) (Or.inl ⟨by rfl, ?hy42⟩) (by assumption) ?re42
      case hy42 => (intro w hSw; (try dsimp only at hSw); go_simp; (try with_reducible rfl))
      try simp only [Act.put, List.setIfInBounds_toArray, List.set_cons_zero, List.set_cons_succ]
      refine Plan.take_m HPl (i := 43) (m' := 16492674416639) (v := ?v43) (Plan.At.tail (Plan.At.tail (Plan.At.tail (Plan.At.tail (Plan.At.tail (Plan.At.tail (Plan.At.tail (Plan.At.tail (Plan.At.tail (Plan.At.tail (Plan.At.tail (Plan.At.tail (Plan.At.tail (Plan.At.tail (Plan.At.tail (Plan.At.tail (Plan.At.tail (Plan.At.tail (Plan.At.tail (Plan.At.tail (Plan.At.tail (Plan.At.tail (Plan.At.tail (Plan.At.tail (Plan.At.tail (Plan.At.tail (Plan.At.tail (Plan.At.tail (Plan.At.tail (Plan.At.tail (Plan.At.tail (Plan.At.tail (Plan.At.tail (Plan.At.tail (Plan.At.tail (Plan.At.tail (Plan.At.tail (Plan.At.tail (Plan.At.tail (Plan.At.tail (Plan.At.tail (Plan.At.tail (Plan.At.tail (Plan.At.head)))))))))))))))))))))))))))))))))))))))))))) rfl (by kernel_rfl) (fun _ _ _ h => h) (Or.inl ⟨by rfl, ?hy43⟩) (by assumption) ?re43
      case hy43 => (intro w hSw; (try dsimp only at hSw); go_simp; (try with_reducible rfl))
      try simp only [Act.put, List.setIfInBounds_toArray, List.set_cons_zero, List.set_cons_succ]
      refine Plan.take_m HPl (i := 44) (m' := 34084860461055) (v := ?v44) (Plan.At.tail (Plan.At.tail (Plan.At.tail (Plan.At.tail (Plan.At.tail (Plan.At.tail (Plan.At.tail (Plan.At.tail (Plan.At.tail (Plan.At.tail (Plan.At.tail (Plan.At.tail (Plan.At.tail (Plan.At.tail (Plan.At.tail (Plan.At.tail (Plan.At.tail (Plan.At.tail (Plan.At.tail (Plan.At.tail (Plan.At.tail (Plan.At.tail (Plan.At.tail (Plan.At.tail (Plan.At.tail (Plan.At.tail (Plan.At.tail (Plan.At.tail (Plan.At.tail (Plan.At.tail (Plan.At.tail (Plan.At.tail (Plan.At.tail (Plan.At.tail (Plan.At.tail (Plan.At.tail (Plan.At.tail (Plan.At.tail (Plan.At.tail (Plan.At.tail (Plan.At.tail (Plan.At.tail (Plan.At.tail (Plan.At.tail (Plan.At.head))))))))))))))))))))))))))))))))))))))))))))) rfl (by kernel_rfl) (fun _ _ _ h => h) (Or.inl ⟨by rfl, ?hy44⟩) (by assumption) ?re44
      case hy44 => (intro w hSw; (try dsimp only at hSw); go_simp; (try with_reducible rfl))
      try simp only [Act.put, List.setIfInBounds_toArray, List.set_cons_zero, List.set_cons_succ]
      refine Plan.take_m HPl (i := 45) (m' := 69269232549887) (v := ?v45) (Plan.At.tail (Plan.At.tail (Plan.At.tail (Plan.At.tail (Plan.At.tail (Plan.At.tail (Plan.At.tail (Plan.At.tail (Plan.At.tail (Plan.At.tail (Plan.At.tail (Plan.At.tail (Plan.At.tail (Plan.At.tail (Plan.At.tail (Plan.At.tail (Plan.At.tail (Plan.At.tail (Plan.At.tail (Plan.At.tail (Plan.At.tail (Plan.At.tail (Plan.At.tail (Plan.At.tail (Plan.At.tail (Plan.At.tail (Plan.At.tail (Plan.At.tail (Plan.At.tail (Plan.At.tail (Plan.At.tail (Plan.At.tail (Plan.At.tail (Plan.At.tail (Plan.At.tail (Plan.At.tail (Plan.At.tail (Plan.At.tail (Plan.At.tail (Plan.At.tail (Plan.At.tail (Plan.At.tail (Plan.At.tail (Plan.At.tail (Plan.At.tail (Plan.At.head)))))))))))))))))))))))))))))))))))))))))))))) rfl (by kernel_rfl) (fun _ _ _ h => h) (Or.inl ⟨by rfl, ?hy45⟩) (by assumption) ?re45
      case hy45 => (intro w hSw; (try dsimp only at hSw); go_simp; (try with_reducible rfl))
      try simp only [Act.put, List.setIfInBounds_toArray, List.set_cons_zero, List.set_cons_succ]
      refine Plan.take_m HPl (i := 46) (m' := 139637976727551) (v := ?v46) (Plan.At.tail (Plan.At.tail (Plan.At.tail (Plan.At.tail (Plan.At.tail (Plan.At.tail (Plan.At.tail (Plan.At.tail (Plan.At.tail (Plan.At.tail (Plan.At.tail (Plan.At.tail (Plan.At.tail (Plan.At.tail (Plan.At.tail (Plan.At.tail (Plan.At.tail (Plan.At.tail (Plan.At.tail (Plan.At.tail (Plan.At.tail (Plan.At.tail (Plan.At.tail (Plan.At.tail (Plan.At.tail (Plan.At.tail (Plan.At.tail (Plan.At.tail (Plan.At.tail (Plan.At.tail (Plan.At.tail (Plan.At.tail (Plan.At.tail (Plan.At.tail (Plan.At.tail (Plan.At.tail (Plan.At.tail (Plan.At.tail (Plan.At.tail (Plan.At.tail (Plan.At.tail (Plan.At.tail (Plan.At.tail (Plan.At.tail (Plan.At.tail (Plan.At.tail (Plan.At.head))))))))))))))))))))))))))))))))))))))))))))))) rfl (by kernel_rfl) (fun _ _ _ h => h) (Or.inl ⟨by rfl, ?hy46⟩) (by assumption) ?re46
      case hy46 => (intro w hSw; (try dsimp only at hSw); go_simp; (try with_reducible rfl))
      try simp only [Act.put, List.setIfInBounds_toArray, List.set_cons_zero, List.set_cons_succ]
      refine Plan.take_m HPl (i := 47) (m' := 280375465082879) (v := ?v47) (Plan.At.tail (Plan.At.tail (Plan.At.tail (Plan.At.tail (Plan.At.tail (Plan.At.tail (Plan.At.tail (Plan.At.tail (Plan.At.tail (Plan.At.tail (Plan.At.tail (Plan.At.tail (Plan.At.tail (Plan.At.tail (Plan.At.tail (Plan.At.tail (Plan.At.tail (Plan.At.tail (Plan.At.tail (Plan.At.tail (Plan.At.tail (Plan.At.tail (Plan.At.tail (Plan.At.tail (Plan.At.tail (Plan.At.tail (Plan.At.tail (Plan.At.tail (Plan.At.tail (Plan.At.tail (Plan.At.tail (Plan.At.tail (Plan.At.tail (Plan.At.tail (Plan.At.tail (Plan.At.tail (Plan.At.tail (Plan.At.tail (Plan.At.tail (Plan.At.tail (Plan.At.tail (Plan.At.tail (Plan.At.tail (Plan.At.tail (Plan.At.tail (Plan.At.tail (Plan.At.tail (Plan.At.head)))))))))))))))))))))))))))))))))))))))))))))))) rfl (by kernel_rfl) (fun _ _ _ h => h) (Or.inl ⟨by rfl, ?hy47⟩) (by assumption) ?re47
      case hy47 => (intro w hSw; (try dsimp only at hSw); go_simp; (try with_reducible rfl))
      try simp only [Act.put, List.setIfInBounds_toArray, List.set_cons_zero, List.set_cons_succ]
      refine Plan.take_m HPl (i := 48) (m' := 561850441793535) (v := ?v48) (Plan.At.tail (Plan.At.tail (Plan.At.tail (Plan.At.tail (Plan.At.tail (Plan.At.tail (Plan.At.tail (Plan.At.tail (Plan.At.tail (Plan.At.tail (Plan.At.tail (Plan.At.tail (Plan.At.tail (Plan.At.tail (Plan.At.tail (Plan.At.tail (Plan.At.tail (Plan.At.tail (Plan.At.tail (Plan.At.tail (Plan.At.tail (Plan.At.tail (Plan.At.tail (Plan.At.tail (Plan.At.tail (Plan.At.tail (Plan.At.tail (Plan.At.tail (Plan.At.tail (Plan.At.tail (Plan.At.tail (Plan.At.tail (Plan.At.tail (Plan.At.tail (Plan.At.tail (Plan.At.tail (Plan.At.tail (Plan.At.tail (Plan.At.tail (Plan.At.tail (Plan.At.tail (Plan.At.tail (Plan.At.tail (Plan.At.tail (Plan.At.tail (Plan.At.tail (Plan.At.tail (Plan.At.tail (Plan.At.head))))))))))))))))))))))))))))))))))))))))))))))))) rfl (by kernel_rfl) (fun _ _ _ h => h) (Or.inl ⟨by rfl, ?hy48⟩) (by assumption) ?re48
      case hy48 => (intro w hSw; (try dsimp only at hSw); go_simp; (try with_reducible rfl))
      try simp only [Act.put, List.setIfInBounds_toArray, List.set_cons_zero, List.set_cons_succ]
      refine Plan.take_m HPl (i := 49) (m' := 1124800395214847) (v := ?v49) (Plan.At.tail (Plan.At.tail (Plan.At.tail (Plan.At.tail (Plan.At.tail (Plan.At.tail (Plan.At.tail (Plan.At.tail (Plan.At.tail (Plan.At.tail (Plan.At.tail (Plan.At.tail (Plan.At.tail (Plan.At.tail (Plan.At.tail (Plan.At.tail (Plan.At.tail (Plan.At.tail (Plan.At.tail (Plan.At.tail (Plan.At.tail (Plan.At.tail (Plan.At.tail (Plan.At.tail (Plan.At.tail (Plan.At.tail (Plan.At.tail (Plan.At.tail (Plan.At.tail (Plan.At.tail (Plan.At.tail (Plan.At.tail (Plan.At.tail (Plan.At.tail (Plan.At.tail (Plan.At.tail (Plan.At.tail (Plan.At.tail (Plan.At.tail (Plan.At.tail (Plan.At.tail (Plan.At.tail (Plan.At.tail (Plan.At.tail (Plan.At.tail (Plan.At.tail (Plan.At.tail (Plan.At.tail (Plan.At.tail (Plan.At.head)))))))))))))))))))))))))))))))))))))))))))))))))) rfl (by kernel_rfl) (fun _ _ _ h => h) (Or.inl ⟨by rfl, ?hy49⟩) (by assumption) ?re49
      case hy49 => (intro w hSw; (try dsimp only at hSw); go_simp; (try with_reducible rfl))
      try simp only [Act.put, List.setIfInBounds_toArray, List.set_cons_zero, List.set_cons_succ]
      refine Plan.only_m HPl (i := 40) (m' := 1125899906842623) (Plan.At.tail (Plan.At.tail (Plan.At.tail (Plan.At.tail (Plan.At.tail (Plan.At.tail (Plan.At.tail (Plan.At.tail (Plan.At.tail (Plan.At.tail (Plan.At.tail (Plan.At.tail (Plan.At.tail (Plan.At.tail (Plan.At.tail (Plan.At.tail (Plan.At.tail (Plan.At.tail (Plan.At.tail (Plan.At.tail (Plan.At.tail (Plan.At.tail (Plan.At.tail (Plan.At.tail (Plan.At.tail (Plan.At.tail (Plan.At.tail (Plan.At.tail (Plan.At.tail (Plan.At.tail (Plan.At.tail (Plan.At.tail (Plan.At.tail (Plan.At.tail (Plan.At.tail (Plan.At.tail (Plan.At.tail (Plan.At.tail (Plan.At.tail (Plan.At.tail (Plan.At.head))))))))))))))))))))))))))))))))))))))))) (by kernel_rfl) (by kernel_rfl) (fun K hK => ?st40)
      go_simp
      (go_at_call 11; refine (HBd.out.cs.count ck co cc HRR.out.2).mono ?_; rintro _ we ⟨rfl, gze⟩; have HBe := hideIt (HBd.out.kept gze); have HXe := hideIt (HXd.out.kept gze); have T5 : Sx we p s t wr.heap.size ⟨k0, a, a2, b, b2, d, d2, ⟨ck, co, cr, cb, cg, cn⟩, n, rt, bd, gd, bt⟩ := sx_of HBe.out HXe.out; clear gze)
      (try go_wp2_with fail)
      refine hK.out _ _ ?sS40 (fun hHeld40 => ?rr40)
      case sS40 => ((try dsimp only); exact T5)
      clear hK K hHeld
      have hHeld := hHeld40
      clear hHeld40
      try simp only [Act.put, List.setIfInBounds_toArray, List.set_cons_zero, List.set_cons_succ]
      refine Plan.only_m HPl (i := 50) (m' := 2251799813685247) (Plan.At.tail (Plan.At.tail (Plan.At.tail (Plan.At.tail (Plan.At.tail (Plan.At.tail (Plan.At.tail (Plan.At.tail (Plan.At.tail (Plan.At.tail (Plan.At.tail (Plan.At.tail (Plan.At.tail (Plan.At.tail (Plan.At.tail (Plan.At.tail (Plan.At.tail (Plan.At.tail (Plan.At.tail (Plan.At.tail (Plan.At.tail (Plan.At.tail (Plan.At.tail (Plan.At.tail (Plan.At.tail (Plan.At.tail (Plan.At.tail (Plan.At.tail (Plan.At.tail (Plan.At.tail (Plan.At.tail (Plan.At.tail (Plan.At.tail (Plan.At.tail (Plan.At.tail (Plan.At.tail (Plan.At.tail (Plan.At.tail (Plan.At.tail (Plan.At.tail (Plan.At.tail (Plan.At.tail (Plan.At.tail (Plan.At.tail (Plan.At.tail (Plan.At.tail (Plan.At.tail (Plan.At.tail (Plan.At.tail (Plan.At.tail (Plan.At.head))))))))))))))))))))))))))))))))))))))))))))))))))) (by kernel_rfl) (by kernel_rfl) (fun K hK => ?st50)
      go_simp
      (go_at_call 12; refine (HBe.out.rc.count ck co cc HRR.out.2).mono ?_; rintro _ wf ⟨rfl, gzf⟩; have HBf := hideIt (HBe.out.kept gzf); have HXf := hideIt (HXe.out.kept gzf); have T6 : Sx wf p s t wr.heap.size ⟨k0, a, a2, b, b2, d, d2, ⟨ck, co, cr, cb, cg, cn⟩, n, rt, bd, gd, bt⟩ := sx_of HBf.out HXf.out; clear gzf)
      (try go_wp2_with fail)
      refine hK.out _ _ ?sS50 (fun hHeld50 => ?rr50)
      case sS50 => ((try dsimp only); exact T6)
      clear hK K hHeld
      have hHeld := hHeld50
      clear hHeld50
      try simp only [Act.put, List.setIfInBounds_toArray, List.set_cons_zero, List.set_cons_succ]
      refine Plan.take_m HPl (i := 51) (m' := 4503599627370495) (v := ?v51) (Plan.At.tail (Plan.At.tail (Plan.At.tail (Plan.At.tail (Plan.At.tail (Plan.At.tail (Plan.At.tail (Plan.At.tail (Plan.At.tail (Plan.At.tail (Plan.At.tail (Plan.At.tail (Plan.At.tail (Plan.At.tail (Plan.At.tail (Plan.At.tail (Plan.At.tail (Plan.At.tail (Plan.At.tail (Plan.At.tail (Plan.At.tail (Plan.At.tail (Plan.At.tail (Plan.At.tail (Plan.At.tail (Plan.At.tail (Plan.At.tail (Plan.At.tail (Plan.At.tail (Plan.At.tail (Plan.At.tail (Plan.At.tail (Plan.At.tail (Plan.At.tail (Plan.At.tail (Plan.At.tail (Plan.At.tail (Plan.At.tail (Plan.At.tail (Plan.At.tail (Plan.At.tail (Plan.At.tail (Plan.At.tail (Plan.At.tail (Plan.At.tail (Plan.At.tail (Plan.At.tail (Plan.At.tail (Plan.At.tail (Plan.At.tail (Plan.At.tail (Plan.At.head)))))))))))))))))))))))))))))))))))))))))))))))))))) rfl (by kernel_rfl) (fun _ _ _ h => h) (Or.inl ⟨by rfl, ?hy51⟩) (by assumption) ?re51
      case hy51 => (intro w hSw; (try dsimp only at hSw); go_simp; (try with_reducible rfl))
      try simp only [Act.put, List.setIfInBounds_toArray, List.set_cons_zero, List.set_cons_succ]
      refine Plan.take_m HPl (i := 52) (m' := 9007199254740991) (v := ?v52) (Plan.At.tail (Plan.At.tail (Plan.At.tail (Plan.At.tail (Plan.At.tail (Plan.At.tail (Plan.At.tail (Plan.At.tail (Plan.At.tail (Plan.At.tail (Plan.At.tail (Plan.At.tail (Plan.At.tail (Plan.At.tail (Plan.At.tail (Plan.At.tail (Plan.At.tail (Plan.At.tail (Plan.At.tail (Plan.At.tail (Plan.At.tail (Plan.At.tail (Plan.At.tail (Plan.At.tail (Plan.At.tail (Plan.At.tail (Plan.At.tail (Plan.At.tail (Plan.At.tail (Plan.At.tail (Plan.At.tail (Plan.At.tail (Plan.At.tail (Plan.At.tail (Plan.At.tail (Plan.At.tail (Plan.At.tail (Plan.At.tail (Plan.At.tail (Plan.At.tail (Plan.At.tail (Plan.At.tail (Plan.At.tail (Plan.At.tail (Plan.At.tail (Plan.At.tail (Plan.At.tail (Plan.At.tail (Plan.At.tail (Plan.At.tail (Plan.At.tail (Plan.At.tail (Plan.At.head))))))))))))))))))))))))))))))))))))))))))))))))))))) rfl (by kernel_rfl) (fun _ _ _ h => h) (Or.inl ⟨by rfl, ?hy52⟩) (by assumption) ?re52
      case hy52 => (intro w hSw; (try dsimp only at hSw); go_simp; (try with_reducible rfl))
      try simp only [Act.put, List.setIfInBounds_toArray, List.set_cons_zero, List.set_cons_succ]
      refine Plan.take_m HPl (i := 53) (m' := 18014398509481983) (v := ?v53) (Plan.At.tail (Plan.At.tail (Plan.At.tail (Plan.At.tail (Plan.At.tail (Plan.At.tail (Plan.At.tail (Plan.At.tail (Plan.At.tail (Plan.At.tail (Plan.At.tail (Plan.At.tail (Plan.At.tail (Plan.At.tail (Plan.At.tail (Plan.At.tail (Plan.At.tail (Plan.At.tail (Plan.At.tail (Plan.At.tail (Plan.At.tail (Plan.At.tail (Plan.At.tail (Plan.At.tail (Plan.At.tail (Plan.At.tail (Plan.At.tail (Plan.At.tail (Plan.At.tail (Plan.At.tail (Plan.At.tail (Plan.At.tail (Plan.At.tail (Plan.At.tail (Plan.At.tail (Plan.At.tail (Plan.At.tail (Plan.At.tail (Plan.At.tail (Plan.At.tail (Plan.At.tail (Plan.At.tail (Plan.At.tail (Plan.At.tail (Plan.At.tail (Plan.At.tail (Plan.At.tail (Plan.At.tail (Plan.At.tail (Plan.At.tail (Plan.At.tail (Plan.At.tail (Plan.At.tail (Plan.At.head)))))))))))))))))))))))))))))))))))))))))))))))))))))) rfl (by kernel_rfl) (fun _ _ _ h => h) (Or.inl ⟨by rfl, ?hy53⟩) (by assumption) ?re53
      case hy53 => (intro w hSw; (try dsimp only at hSw); go_simp; (try with_reducible rfl))
      try simp only [Act.put, List.setIfInBounds_toArray, List.set_cons_zero, List.set_cons_succ]
      refine Plan.take_m HPl (i := 54) (m' := 36028797018963967) (v := ?v54) (Plan.At.tail (Plan.At.tail (Plan.At.tail (Plan.At.tail (Plan.At.tail (Plan.At.tail (Plan.At.tail (Plan.At.tail (Plan.At.tail (Plan.At.tail (Plan.At.tail (Plan.At.tail (Plan.At.tail (Plan.At.tail (Plan.At.tail (Plan.At.tail (Plan.At.tail (Plan.At.tail (Plan.At.tail (Plan.At.tail (Plan.At.tail (Plan.At.tail (Plan.At.tail (Plan.At.tail (Plan.At.tail (Plan.At.tail (Plan.At.tail (Plan.At.tail (Plan.At.tail (Plan.At.tail (Plan.At.tail (Plan.At.tail (Plan.At.tail (Plan.At.tail (Plan.At.tail (Plan.At.tail (Plan.At.tail (Plan.At.tail (Plan.At.tail (Plan.At.tail (Plan.At.tail (Plan.At.tail (Plan.At.tail (Plan.At.tail (Plan.At.tail (Plan.At.tail (Plan.At.tail (Plan.At.tail (Plan.At.tail (Plan.At.tail (Plan.At.tail (Plan.At.tail (Plan.At.tail (Plan.At.tail (Plan.At.head))))))))))))))))))))))))))))))))))))))))))))))))))))))) rfl (by kernel_rfl) (fun _ _ _ h => h) (Or.inl ⟨by rfl, ?hy54⟩) (by assumption) ?re54
      case hy54 => (intro w hSw; (try dsimp only at hSw); go_simp; (try with_reducible rfl))
      try simp only [Act.put, List.setIfInBounds_toArray, List.set_cons_zero, List.set_cons_succ]
      refine Plan.take_m HPl (i := 55) (m' := 72057594037927935) (v := ?v55) (Plan.At.tail (Plan.At.tail (Plan.At.tail (Plan.At.tail (Plan.At.tail (Plan.At.tail (Plan.At.tail (Plan.At.tail (Plan.At.tail (Plan.At.tail (Plan.At.tail (Plan.At.tail (Plan.At.tail (Plan.At.tail (Plan.At.tail (Plan.At.tail (Plan.At.tail (Plan.At.tail (Plan.At.tail (Plan.At.tail (Plan.At.tail (Plan.At.tail (Plan.At.tail (Plan.At.tail (Plan.At.tail (Plan.At.tail (Plan.At.tail (Plan.At.tail (Plan.At.tail (Plan.At.tail (Plan.At.tail (Plan.At.tail (Plan.At.tail (Plan.At.tail (Plan.At.tail (Plan.At.tail (Plan.At.tail (Plan.At.tail (Plan.At.tail (Plan.At.tail (Plan.At.tail (Plan.At.tail (Plan.At.tail (Plan.At.tail (Plan.At.tail (Plan.At.tail (Plan.At.tail (Plan.At.tail (Plan.At.tail (Plan.At.tail (Plan.At.tail (Plan.At.tail (Plan.At.tail (Plan.At.tail (Plan.At.tail (Plan.At.head)))))))))))))))))))))))))))))))))))))))))))))))))))))))) rfl (by kernel_rfl) (fun _ _ _ h => h) (Or.inl ⟨by rfl, ?hy55⟩) (by assumption) ?re55
      case hy55 => (intro w hSw; (try dsimp only at hSw); go_simp; (try with_reducible rfl))
      try simp only [Act.put, List.setIfInBounds_toArray, List.set_cons_zero, List.set_cons_succ]
      refine Plan.take_m HPl (i := 56) (m' := 144115188075855871) (v := ?v56) (Plan.At.tail (Plan.At.tail (Plan.At.tail (Plan.At.tail (Plan.At.tail (Plan.At.tail (Plan.At.tail (Plan.At.tail (Plan.At.tail (Plan.At.tail (Plan.At.tail (Plan.At.tail (Plan.At.tail (Plan.At.tail (Plan.At.tail (Plan.At.tail (Plan.At.tail (Plan.At.tail (Plan.At.tail (Plan.At.tail (Plan.At.tail (Plan.At.tail (Plan.At.tail (Plan.At.tail (Plan.At.tail (Plan.At.tail (Plan.At.tail (Plan.At.tail (Plan.At.tail (Plan.At.tail (Plan.At.tail (Plan.At.tail (Plan.At.tail (Plan.At.tail (Plan.At.tail (Plan.At.tail (Plan.At.tail (Plan.At.tail (Plan.At.tail (Plan.At.tail (Plan.At.tail (Plan.At.tail (Plan.At.tail (Plan.At.tail (Plan.At.tail (Plan.At.tail (Plan.At.tail (Plan.At.tail (Plan.At.tail (Plan.At.tail (Plan.At.tail (Plan.At.tail (Plan.At.tail (Plan.At.tail (Plan.At.tail (Plan.At.tail (Plan.At.head))))))))))))))))))))))))))))))))))))))))))))))))))))))))) rfl (by kernel_rfl) (fun _ _ _ h => h) (Or.inl ⟨by rfl, ?hy56⟩) (by assumption) ?re56
      case hy56 => (intro w hSw; (try dsimp only at hSw); go_simp; (try with_reducible rfl))
      try simp only [Act.put, List.setIfInBounds_toArray, List.set_cons_zero, List.set_cons_succ]
      refine Plan.take_m HPl (i := 57) (m' := 288230376151711743) (v := ?v57) (Plan.At.tail (Plan.At.tail (Plan.At.tail (Plan.At.tail (Plan.At.tail (Plan.At.tail (Plan.At.tail (Plan.At.tail (Plan.At.tail (Plan.At.tail (Plan.At.tail (Plan.At.tail (Plan.At.tail (Plan.At.tail (Plan.At.tail (Plan.At.tail (Plan.At.tail (Plan.At.tail (Plan.At.tail (Plan.At.tail (Plan.At.tail (Plan.At.tail (Plan.At.tail (Plan.At.tail (Plan.At.tail (Plan.At.tail (Plan.At.tail (Plan.At.tail (Plan.At.tail (Plan.At.tail (Plan.At.tail (Plan.At.tail (Plan.At.tail (Plan.At.tail (Plan.At.tail (Plan.At.tail (Plan.At.tail (Plan.At.tail (Plan.At.tail (Plan.At.tail (Plan.At.tail (Plan.At.tail (Plan.At.tail (Plan.At.tail (Plan.At.tail (Plan.At.tail (Plan.At.tail (Plan.At.tail (Plan.At.tail (Plan.At.tail (Plan.At.tail (Plan.At.tail (Plan.At.tail (Plan.At.tail (Plan.At.tail (Plan.At.tail (Plan.At.tail (Plan.At.head)))))))))))))))))))))))))))))))))))))))))))))))))))))))))) rfl (by kernel_rfl) (fun _ _ _ h => h) (Or.inl ⟨by rfl, ?hy57⟩) (by assumption) ?re57
      case hy57 => (intro w hSw; (try dsimp only at hSw); go_simp; (try with_reducible rfl))
      try simp only [Act.put, List.setIfInBounds_toArray, List.set_cons_zero, List.set_cons_succ]
      refine Plan.take_m HPl (i := 58) (m' := 576460752303423487) (v := ?v58) (Plan.At.tail (Plan.At.tail (Plan.At.tail (Plan.At.tail (Plan.At.tail (Plan.At.tail (Plan.At.tail (Plan.At.tail (Plan.At.tail (Plan.At.tail (Plan.At.tail (Plan.At.tail (Plan.At.tail (Plan.At.tail (Plan.At.tail (Plan.At.tail (Plan.At.tail (Plan.At.tail (Plan.At.tail (Plan.At.tail (Plan.At.tail (Plan.At.tail (Plan.At.tail (Plan.At.tail (Plan.At.tail (Plan.At.tail (Plan.At.tail (Plan.At.tail (Plan.At.tail (Plan.At.tail (Plan.At.tail (Plan.At.tail (Plan.At.tail (Plan.At.tail (Plan.At.tail (Plan.At.tail (Plan.At.tail (Plan.At.tail (Plan.At.tail (Plan.At.tail (Plan.At.tail (Plan.At.tail (Plan.At.tail (Plan.At.tail (Plan.At.tail (Plan.At.tail (Plan.At.tail (Plan.At.tail (Plan.At.tail (Plan.At.tail (Plan.At.tail (Plan.At.tail (Plan.At.tail (Plan.At.tail (Plan.At.tail (Plan.At.tail (Plan.At.tail (Plan.At.tail (Plan.At.head))))))))))))))))))))))))))))))))))))))))))))))))))))))))))) rfl (by kernel_rfl) (fun _ _ _ h => h) (Or.inl ⟨by rfl, ?hy58⟩) (by assumption) ?re58
      case hy58 => (intro w hSw; (try dsimp only at hSw); go_simp; (try with_reducible rfl))
      try simp only [Act.put, List.setIfInBounds_toArray, List.set_cons_zero, List.set_cons_succ]
      refine Plan.take_m HPl (i := 59) (m' := 1152921504606846975) (v := ?v59) (Plan.At.tail (Plan.At.tail (Plan.At.tail (Plan.At.tail (Plan.At.tail (Plan.At.tail (Plan.At.tail (Plan.At.tail (Plan.At.tail (Plan.At.tail (Plan.At.tail (Plan.At.tail (Plan.At.tail (Plan.At.tail (Plan.At.tail (Plan.At.tail (Plan.At.tail (Plan.At.tail (Plan.At.tail (Plan.At.tail (Plan.At.tail (Plan.At.tail (Plan.At.tail (Plan.At.tail (Plan.At.tail (Plan.At.tail (Plan.At.tail (Plan.At.tail (Plan.At.tail (Plan.At.tail (Plan.At.tail (Plan.At.tail (Plan.At.tail (Plan.At.tail (Plan.At.tail (Plan.At.tail (Plan.At.tail (Plan.At.tail (Plan.At.tail (Plan.At.tail (Plan.At.tail (Plan.At.tail (Plan.At.tail (Plan.At.tail (Plan.At.tail (Plan.At.tail (Plan.At.tail (Plan.At.tail (Plan.At.tail (Plan.At.tail (Plan.At.tail (Plan.At.tail (Plan.At.tail (Plan.At.tail (Plan.At.tail (Plan.At.tail (Plan.At.tail (Plan.At.tail (Plan.At.tail (Plan.At.head)))))))))))))))))))))))))))))))))))))))))))))))))))))))))))) rfl (by kernel_rfl) (fun _ _ _ h => h) (Or.inl ⟨by rfl, ?hy59⟩) (by assumption) ?re59
      case hy59 => (intro w hSw; (try dsimp only at hSw); go_simp; (try with_reducible rfl))
      try simp only [Act.put, List.setIfInBounds_toArray, List.set_cons_zero, List.set_cons_succ]
      refine Plan.take_m HPl (i := 61) (m' := 3458764513820540927) (v := ?v61) (Plan.At.tail (Plan.At.tail (Plan.At.tail (Plan.At.tail (Plan.At.tail (Plan.At.tail (Plan.At.tail (Plan.At.tail (Plan.At.tail (Plan.At.tail (Plan.At.tail (Plan.At.tail (Plan.At.tail (Plan.At.tail (Plan.At.tail (Plan.At.tail (Plan.At.tail (Plan.At.tail (Plan.At.tail (Plan.At.tail (Plan.At.tail (Plan.At.tail (Plan.At.tail (Plan.At.tail (Plan.At.tail (Plan.At.tail (Plan.At.tail (Plan.At.tail (Plan.At.tail (Plan.At.tail (Plan.At.tail (Plan.At.tail (Plan.At.tail (Plan.At.tail (Plan.At.tail (Plan.At.tail (Plan.At.tail (Plan.At.tail (Plan.At.tail (Plan.At.tail (Plan.At.tail (Plan.At.tail (Plan.At.tail (Plan.At.tail (Plan.At.tail (Plan.At.tail (Plan.At.tail (Plan.At.tail (Plan.At.tail (Plan.At.tail (Plan.At.tail (Plan.At.tail (Plan.At.tail (Plan.At.tail (Plan.At.tail (Plan.At.tail (Plan.At.tail (Plan.At.tail (Plan.At.tail (Plan.At.tail (Plan.At.tail (Plan.At.head)))))))))))))))))))))))))))))))))))))))))))))))))))))))))))))) rfl (by kernel_rfl) (fun _ _ _ h => h) (Or.inl ⟨by rfl, ?hy61⟩) (by assumption) ?re61
      case hy61 => (intro w hSw; (try dsimp only at hSw); go_simp; (try with_reducible rfl))
      try simp only [Act.put, List.setIfInBounds_toArray, List.set_cons_zero, List.set_cons_succ]
      refine Plan.take_m HPl (i := 62) (m' := 8070450532247928831) (v := ?v62) (Plan.At.tail (Plan.At.tail (Plan.At.tail (Plan.At.tail (Plan.At.tail (Plan.At.tail (Plan.At.tail (Plan.At.tail (Plan.At.tail (Plan.At.tail (Plan.At.tail (Plan.At.tail (Plan.At.tail (Plan.At.tail (Plan.At.tail (Plan.At.tail (Plan.At.tail (Plan.At.tail (Plan.At.tail (Plan.At.tail (Plan.At.tail (Plan.At.tail (Plan.At.tail (Plan.At.tail (Plan.At.tail (Plan.At.tail (Plan.At.tail (Plan.At.tail (Plan.At.tail (Plan.At.tail (Plan.At.tail (Plan.At.tail (Plan.At.tail (Plan.At.tail (Plan.At.tail (Plan.At.tail (Plan.At.tail (Plan.At.tail (Plan.At.tail (Plan.At.tail (Plan.At.tail (Plan.At.tail (Plan.At.tail (Plan.At.tail (Plan.At.tail (Plan.At.tail (Plan.At.tail (Plan.At.tail (Plan.At.tail (Plan.At.tail (Plan.At.tail (Plan.At.tail (Plan.At.tail (Plan.At.tail (Plan.At.tail (Plan.At.tail (Plan.At.tail (Plan.At.tail (Plan.At.tail (Plan.At.tail (Plan.At.tail (Plan.At.tail (Plan.At.head))))))))))))))))))))))))))))))))))))))))))))))))))))))))))))))) rfl (by kernel_rfl) (fun _ _ _ h => h) (Or.inl ⟨by rfl, ?hy62⟩) (by assumption) ?re62
      case hy62 => (intro w hSw; (try dsimp only at hSw); go_simp; (try with_reducible rfl))
      try simp only [Act.put, List.setIfInBounds_toArray, List.set_cons_zero, List.set_cons_succ]
      refine Plan.take_m HPl (i := 63) (m' := 17293822569102704639) (v := ?v63) (Plan.At.tail (Plan.At.tail (Plan.At.tail (Plan.At.tail (Plan.At.tail (Plan.At.tail (Plan.At.tail (Plan.At.tail (Plan.At.tail (Plan.At.tail (Plan.At.tail (Plan.At.tail (Plan.At.tail (Plan.At.tail (Plan.At.tail (Plan.At.tail (Plan.At.tail (Plan.At.tail (Plan.At.tail (Plan.At.tail (Plan.At.tail (Plan.At.tail (Plan.At.tail (Plan.At.tail (Plan.At.tail (Plan.At.tail (Plan.At.tail (Plan.At.tail (Plan.At.tail (Plan.At.tail (Plan.At.tail (Plan.At.tail (Plan.At.tail (Plan.At.tail (Plan.At.tail (Plan.At.tail (Plan.At.tail (Plan.At.tail (Plan.At.tail (Plan.At.tail (Plan.At.tail (Plan.At.tail (Plan.At.tail (Plan.At.tail (Plan.At.tail (Plan.At.tail (Plan.At.tail (Plan.At.tail (Plan.At.tail (Plan.At.tail (Plan.At.tail (Plan.At.tail (Plan.At.tail (Plan.At.tail (Plan.At.tail (Plan.At.tail (Plan.At.tail (Plan.At.tail (Plan.At.tail (Plan.At.tail (Plan.At.tail (Plan.At.tail (Plan.At.tail (Plan.At.head)))))))))))))))))))))))))))))))))))))))))))))))))))))))))))))))) rfl (by kernel_rfl) (fun _ _ _ h => h) (Or.inl ⟨by rfl, ?hy63⟩) (by assumption) ?re63
      case hy63 => (intro w hSw; (try dsimp only at hSw); go_simp; (try with_reducible rfl))
      try simp only [Act.put, List.setIfInBounds_toArray, List.set_cons_zero, List.set_cons_succ]
      refine Plan.take_m HPl (i := 64) (m' := 35740566642812256255) (v := ?v64) (Plan.At.tail (Plan.At.tail (Plan.At.tail (Plan.At.tail (Plan.At.tail (Plan.At.tail (Plan.At.tail (Plan.At.tail (Plan.At.tail (Plan.At.tail (Plan.At.tail (Plan.At.tail (Plan.At.tail (Plan.At.tail (Plan.At.tail (Plan.At.tail (Plan.At.tail (Plan.At.tail (Plan.At.tail (Plan.At.tail (Plan.At.tail (Plan.At.tail (Plan.At.tail (Plan.At.tail (Plan.At.tail (Plan.At.tail (Plan.At.tail (Plan.At.tail (Plan.At.tail (Plan.At.tail (Plan.At.tail (Plan.At.tail (Plan.At.tail (Plan.At.tail (Plan.At.tail (Plan.At.tail (Plan.At.tail (Plan.At.tail (Plan.At.tail (Plan.At.tail (Plan.At.tail (Plan.At.tail (Plan.At.tail (Plan.At.tail (Plan.At.tail (Plan.At.tail (Plan.At.tail (Plan.At.tail (Plan.At.tail (Plan.At.tail (Plan.At.tail (Plan.At.tail (Plan.At.tail (Plan.At.tail (Plan.At.tail (Plan.At.tail (Plan.At.tail (Plan.At.tail (Plan.At.tail (Plan.At.tail (Plan.At.tail (Plan.At.tail (Plan.At.tail (Plan.At.tail (Plan.At.head))))))))))))))))))))))))))))))))))))))))))))))))))))))))))))))))) rfl (by kernel_rfl) (fun _ _ _ h => h) (Or.inl ⟨by rfl, ?hy64⟩) (by assumption) ?re64
      case hy64 => (intro w hSw; (try dsimp only at hSw); go_simp; (try with_reducible rfl))
      try simp only [Act.put, List.setIfInBounds_toArray, List.set_cons_zero, List.set_cons_succ]
      refine Plan.take_m HPl (i := 65) (m' := 72634054790231359487) (v := ?v65) (Plan.At.tail (Plan.At.tail (Plan.At.tail (Plan.At.tail (Plan.At.tail (Plan.At.tail (Plan.At.tail (Plan.At.tail (Plan.At.tail (Plan.At.tail (Plan.At.tail (Plan.At.tail (Plan.At.tail (Plan.At.tail (Plan.At.tail (Plan.At.tail (Plan.At.tail (Plan.At.tail (Plan.At.tail (Plan.At.tail (Plan.At.tail (Plan.At.tail (Plan.At.tail (Plan.At.tail (Plan.At.tail (Plan.At.tail (Plan.At.tail (Plan.At.tail (Plan.At.tail (Plan.At.tail (Plan.At.tail (Plan.At.tail (Plan.At.tail (Plan.At.tail (Plan.At.tail (Plan.At.tail (Plan.At.tail (Plan.At.tail (Plan.At.tail (Plan.At.tail (Plan.At.tail (Plan.At.tail (Plan.At.tail (Plan.At.tail (Plan.At.tail (Plan.At.tail (Plan.At.tail (Plan.At.tail (Plan.At.tail (Plan.At.tail (Plan.At.tail (Plan.At.tail (Plan.At.tail (Plan.At.tail (Plan.At.tail (Plan.At.tail (Plan.At.tail (Plan.At.tail (Plan.At.tail (Plan.At.tail (Plan.At.tail (Plan.At.tail (Plan.At.tail (Plan.At.tail (Plan.At.tail (Plan.At.head)))))))))))))))))))))))))))))))))))))))))))))))))))))))))))))))))) rfl (by kernel_rfl) (fun _ _ _ h => h) (Or.inl ⟨by rfl, ?hy65⟩) (by assumption) ?re65
      case hy65 => (intro w hSw; (try dsimp only at hSw); go_simp; (try with_reducible rfl))
      try simp only [Act.put, List.setIfInBounds_toArray, List.set_cons_zero, List.set_cons_succ]
      refine Plan.only_m HPl (i := 60) (m' := 73786976294838206463) (Plan.At.tail (Plan.At.tail (Plan.At.tail (Plan.At.tail (Plan.At.tail (Plan.At.tail (Plan.At.tail (Plan.At.tail (Plan.At.tail (Plan.At.tail (Plan.At.tail (Plan.At.tail (Plan.At.tail (Plan.At.tail (Plan.At.tail (Plan.At.tail (Plan.At.tail (Plan.At.tail (Plan.At.tail (Plan.At.tail (Plan.At.tail (Plan.At.tail (Plan.At.tail (Plan.At.tail (Plan.At.tail (Plan.At.tail (Plan.At.tail (Plan.At.tail (Plan.At.tail (Plan.At.tail (Plan.At.tail (Plan.At.tail (Plan.At.tail (Plan.At.tail (Plan.At.tail (Plan.At.tail (Plan.At.tail (Plan.At.tail (Plan.At.tail (Plan.At.tail (Plan.At.tail (Plan.At.tail (Plan.At.tail (Plan.At.tail (Plan.At.tail (Plan.At.tail (Plan.At.tail (Plan.At.tail (Plan.At.tail (Plan.At.tail (Plan.At.tail (Plan.At.tail (Plan.At.tail (Plan.At.tail (Plan.At.tail (Plan.At.tail (Plan.At.tail (Plan.At.tail (Plan.At.tail (Plan.At.tail (Plan.At.head))))))))))))))))))))))))))))))))))))))))))))))))))))))))))))) (by kernel_rfl) (by kernel_rfl) (fun K hK => ?st60)
      go_simp
      (go_at_call 14; refine (HBf.out.cs.kin a a2 HQ.out.a HQ.out.a2 hla2).mono ?_; rintro _ wg ⟨vg, rfl, lg, gzg⟩; have HBg := hideIt (HBf.out.kept gzg); have HXg := hideIt (HXf.out.kept gzg); have T7 : Sx wg p s t wr.heap.size ⟨k0, a, a2, b, b2, d, d2, ⟨ck, co, cr, cb, cg, cn⟩, n, rt, bd, gd, bt⟩ := sx_of HBg.out HXg.out; have LG := hideIt lg; clear lg; clear gzg)
      (try go_wp2_with fail)
      refine hK.out _ _ ?sS60 (fun hHeld60 => ?rr60)
      case sS60 => ((try dsimp only); exact T7)
      clear hK K hHeld
      have hHeld := hHeld60
      clear hHeld60
      try simp only [Act.put, List.setIfInBounds_toArray, List.set_cons_zero, List.set_cons_succ]
      refine Plan.only_m HPl (i := 66) (m' := 147573952589676412927) (Plan.At.tail (Plan.At.tail (Plan.At.tail (Plan.At.tail (Plan.At.tail (Plan.At.tail (Plan.At.tail (Plan.At.tail (Plan.At.tail (Plan.At.tail (Plan.At.tail (Plan.At.tail (Plan.At.tail (Plan.At.tail (Plan.At.tail (Plan.At.tail (Plan.At.tail (Plan.At.tail (Plan.At.tail (Plan.At.tail (Plan.At.tail (Plan.At.tail (Plan.At.tail (Plan.At.tail (Plan.At.tail (Plan.At.tail (Plan.At.tail (Plan.At.tail (Plan.At.tail (Plan.At.tail (Plan.At.tail (Plan.At.tail (Plan.At.tail (Plan.At.tail (Plan.At.tail (Plan.At.tail (Plan.At.tail (Plan.At.tail (Plan.At.tail (Plan.At.tail (Plan.At.tail (Plan.At.tail (Plan.At.tail (Plan.At.tail (Plan.At.tail (Plan.At.tail (Plan.At.tail (Plan.At.tail (Plan.At.tail (Plan.At.tail (Plan.At.tail (Plan.At.tail (Plan.At.tail (Plan.At.tail (Plan.At.tail (Plan.At.tail (Plan.At.tail (Plan.At.tail (Plan.At.tail (Plan.At.tail (Plan.At.tail (Plan.At.tail (Plan.At.tail (Plan.At.tail (Plan.At.tail (Plan.At.tail (Plan.At.head))))))))))))))))))))))))))))))))))))))))))))))))))))))))))))))))))) (by kernel_rfl) (by kernel_rfl) (fun K hK => ?st66)
      go_simp
      (go_at_call 15; refine (HBg.out.rc.kin a a2 hla).mono ?_; rintro _ wh ⟨vh, rfl, lh, gzh⟩; have HBh := hideIt (HBg.out.kept gzh); have HXh := hideIt (HXg.out.kept gzh); have T8 : Sx wh p s t wr.heap.size ⟨k0, a, a2, b, b2, d, d2, ⟨ck, co, cr, cb, cg, cn⟩, n, rt, bd, gd, bt⟩ := sx_of HBh.out HXh.out; have LH := hideIt lh; have LG2 := hideIt (LG.out.kept gzh); clear lh; clear gzh)
      (try go_wp2_with fail)
      refine hK.out _ _ ?sS66 (fun hHeld66 => ?rr66)
      case sS66 => ((try dsimp only); exact T8)
      clear hK K hHeld
      have hHeld := hHeld66
      clear hHeld66
      try simp only [Act.put, List.setIfInBounds_toArray, List.set_cons_zero, List.set_cons_succ]
      refine Plan.only_m HPl (i := 67) (m' := 295147905179352825855) (Plan.At.tail (Plan.At.tail (Plan.At.tail (Plan.At.tail (Plan.At.tail (Plan.At.tail (Plan.At.tail (Plan.At.tail (Plan.At.tail (Plan.At.tail (Plan.At.tail (Plan.At.tail (Plan.At.tail (Plan.At.tail (Plan.At.tail (Plan.At.tail (Plan.At.tail (Plan.At.tail (Plan.At.tail (Plan.At.tail (Plan.At.tail (Plan.At.tail (Plan.At.tail (Plan.At.tail (Plan.At.tail (Plan.At.tail (Plan.At.tail (Plan.At.tail (Plan.At.tail (Plan.At.tail (Plan.At.tail (Plan.At.tail (Plan.At.tail (Plan.At.tail (Plan.At.tail (Plan.At.tail (Plan.At.tail (Plan.At.tail (Plan.At.tail (Plan.At.tail (Plan.At.tail (Plan.At.tail (Plan.At.tail (Plan.At.tail (Plan.At.tail (Plan.At.tail (Plan.At.tail (Plan.At.tail (Plan.At.tail (Plan.At.tail (Plan.At.tail (Plan.At.tail (Plan.At.tail (Plan.At.tail (Plan.At.tail (Plan.At.tail (Plan.At.tail (Plan.At.tail (Plan.At.tail (Plan.At.tail (Plan.At.tail (Plan.At.tail (Plan.At.tail (Plan.At.tail (Plan.At.tail (Plan.At.tail (Plan.At.tail (Plan.At.head)))))))))))))))))))))))))))))))))))))))))))))))))))))))))))))))))))) (by kernel_rfl) (by kernel_rfl) (fun K hK => ?st67)
      go_simp
      (go_at_call 13; refine (same_is LG2.out LH.out (Nat.le_trans (M.kin_len f2 (a, a2)) (Nat.le_trans hla (by decide)))).mono ?_; rintro _ wi ⟨rfl, gzi⟩; have HBi := hideIt (HBh.out.kept gzi); have HXi := hideIt (HXh.out.kept gzi); have T9 : Sx wi p s t wr.heap.size ⟨k0, a, a2, b, b2, d, d2, ⟨ck, co, cr, cb, cg, cn⟩, n, rt, bd, gd, bt⟩ := sx_of HBi.out HXi.out; clear gzi)
      (try go_wp2_with fail)
      refine hK.out _ _ ?sS67 (fun hHeld67 => ?rr67)
      case sS67 => ((try dsimp only); exact T9)
      clear hK K hHeld
      have hHeld := hHeld67
      clear hHeld67
      try simp only [Act.put, List.setIfInBounds_toArray, List.set_cons_zero, List.set_cons_succ]
      refine Plan.take_m HPl (i := 68) (m' := 590295810358705651711) (v := ?v68) (Plan.At.tail (Plan.At.tail (Plan.At.tail (Plan.At.tail (Plan.At.tail (Plan.At.tail (Plan.At.tail (Plan.At.tail (Plan.At.tail (Plan.At.tail (Plan.At.tail (Plan.At.tail (Plan.At.tail (Plan.At.tail (Plan.At.tail (Plan.At.tail (Plan.At.tail (Plan.At.tail (Plan.At.tail (Plan.At.tail (Plan.At.tail (Plan.At.tail (Plan.At.tail (Plan.At.tail (Plan.At.tail (Plan.At.tail (Plan.At.tail (Plan.At.tail (Plan.At.tail (Plan.At.tail (Plan.At.tail (Plan.At.tail (Plan.At.tail (Plan.At.tail (Plan.At.tail (Plan.At.tail (Plan.At.tail (Plan.At.tail (Plan.At.tail (Plan.At.tail (Plan.At.tail (Plan.At.tail (Plan.At.tail (Plan.At.tail (Plan.At.tail (Plan.At.tail (Plan.At.tail (Plan.At.tail (Plan.At.tail (Plan.At.tail (Plan.At.tail (Plan.At.tail (Plan.At.tail (Plan.At.tail (Plan.At.tail (Plan.At.tail (Plan.At.tail (Plan.At.tail (Plan.At.tail (Plan.At.tail (Plan.At.tail (Plan.At.tail (Plan.At.tail (Plan.At.tail (Plan.At.tail (Plan.At.tail (Plan.At.tail (Plan.At.tail (Plan.At.head))))))))))))))))))))))))))))))))))))))))))))))))))))))))))))))))))))) rfl (by kernel_rfl) (fun _ _ _ h => h) (Or.inl ⟨by rfl, ?hy68⟩) (by assumption) ?re68
      case hy68 => (intro w hSw; (try dsimp only at hSw); go_simp; (try with_reducible rfl))
      try simp only [Act.put, List.setIfInBounds_toArray, List.set_cons_zero, List.set_cons_succ]
      refine Plan.take_m HPl (i := 69) (m' := 1180591620717411303423) (v := ?v69) (Plan.At.tail (Plan.At.tail (Plan.At.tail (Plan.At.tail (Plan.At.tail (Plan.At.tail (Plan.At.tail (Plan.At.tail (Plan.At.tail (Plan.At.tail (Plan.At.tail (Plan.At.tail (Plan.At.tail (Plan.At.tail (Plan.At.tail (Plan.At.tail (Plan.At.tail (Plan.At.tail (Plan.At.tail (Plan.At.tail (Plan.At.tail (Plan.At.tail (Plan.At.tail (Plan.At.tail (Plan.At.tail (Plan.At.tail (Plan.At.tail (Plan.At.tail (Plan.At.tail (Plan.At.tail (Plan.At.tail (Plan.At.tail (Plan.At.tail (Plan.At.tail (Plan.At.tail (Plan.At.tail (Plan.At.tail (Plan.At.tail (Plan.At.tail (Plan.At.tail (Plan.At.tail (Plan.At.tail (Plan.At.tail (Plan.At.tail (Plan.At.tail (Plan.At.tail (Plan.At.tail (Plan.At.tail (Plan.At.tail (Plan.At.tail (Plan.At.tail (Plan.At.tail (Plan.At.tail (Plan.At.tail (Plan.At.tail (Plan.At.tail (Plan.At.tail (Plan.At.tail (Plan.At.tail (Plan.At.tail (Plan.At.tail (Plan.At.tail (Plan.At.tail (Plan.At.tail (Plan.At.tail (Plan.At.tail (Plan.At.tail (Plan.At.tail (Plan.At.tail (Plan.At.head)))))))))))))))))))))))))))))))))))))))))))))))))))))))))))))))))))))) rfl (by kernel_rfl) (fun _ _ _ h => h) (Or.inl ⟨by rfl, ?hy69⟩) (by assumption) ?re69
      case hy69 => (intro w hSw; (try dsimp only at hSw); go_simp; (try with_reducible rfl))
      try simp only [Act.put, List.setIfInBounds_toArray, List.set_cons_zero, List.set_cons_succ]
      refine Plan.done_m HPl (by kernel_rfl) ?_ _
      clear HPl
      refine NoPanic.normal ?_
      clear hHeld T0 T1 T2 T3 T4 T5 T6 T7 T8 T9
      go_wp2
      go_roundg (gk - 1)
      case rel => exact ⟨j + 1, _, _, _, _, _, by omega, by go_num, HBi, HIa, HLa, HMa⟩
      case measure => omega
    · have h12 : ¬ (j < len ∧ j < 60) := hlt
      go_upto_region 5 with fail
      go_cut [34] (fun s wc => s = .bool false ∧ wc = wr)
      case first =>
        by_cases k1 : (j : Int) < (len : Int)
        · have k2 : ¬ (j : Int) < 60 := by omega
          go_wp2
          go_meet
          exact ⟨rfl, rfl⟩
        · go_wp2
          go_meet
          exact ⟨rfl, rfl⟩
      case rest =>
      obtain ⟨rfl, rfl⟩ := hcut
      clear hlt h12 hj HL HM HI
      obtain ⟨⟨N2, A2, ⟨k2, o2, r2, b2, g2, n2⟩, E2⟩, hr2⟩ : ∃ z, M.cp S ⟨K1, O1, R1, B1, G1, N1⟩ x = z := ⟨_, rfl⟩
      obtain ⟨⟨N3, A3, E3⟩, hr3⟩ : ∃ z, M.fd S ⟨K1, O1, R1, B1, G1, N1⟩ x dp = z := ⟨_, rfl⟩
      have HR2 := hideIt hr2
      have HR3 := hideIt hr3
      clear hr2 hr3
      have HXr := hideIt (HX0.out.kept HC.out.gr)
      obtain ⟨x0, x1, x2, x3, x4, x5⟩ := HXr.out.tup
      simp only at x0 x1 x2 x3 x4 x5
      go_wp2_with fail
      refine (HC.out.cs.findA x K1 O1 R1 B1 G1 N1 N2 A2 E2 k2 o2 r2 b2 g2 n2 io hp HR2.out).mono ?_
      rintro _ w6 ⟨rfl, g6⟩
      clear x0 x1 x2 x3 x4 x5
      go_upto_region 11 with fail
      obtain ⟨W6, hW6, Y6, Z6, g7⟩ := slotBox w6 N2 A2 ⟨k2, o2, r2, b2, g2, n2⟩
      simp only at hW6
      rw [hW6]
      clear hW6
      have HC6 := hideIt (HC.out.kept (gbTrans g6 g7))
      have HX6 := hideIt (HXr.out.kept (gbTrans g6 g7))
      have HY6 := hideIt Y6
      have HZ6 := hideIt Z6
      clear Y6 Z6 g6 g7 HC HXr
      go_cut [16, 17, 18] (fun s16 s17 s18 wc => ∃ Z Y : Nat, s16 = .pointer (some ⟨Z, 0, none⟩) ∧ s17 = .pointer (some ⟨Y, 0, none⟩) ∧ s18 = .int .i64 E2 ∧ Hid (SBox wc Z N2 A2) ∧ Hid (Box wc Y ⟨k2, o2, r2, b2, g2, n2⟩) ∧ Hid (W6.grownBy wc none))
      case first =>
        have hA9 : W6.heap.size < W6.heap.size + 1 + 1 := by omega
        have hB9 : W6.heap.size + 1 < W6.heap.size + 1 + 1 := by omega
        have T0b : Six W6 w.heap.size ⟨K1, O1, R1, B1, G1, N1⟩ := HX6.out.tup
        have T0 : Six W6.drew w.heap.size ⟨K1, O1, R1, B1, G1, N1⟩ := (HX6.out.kept (gbDrewN W6 1 none)).tup
        go_region_held3 (fun w' => Six w' w.heap.size ⟨K1, O1, R1, B1, G1, N1⟩)
          (first | with_reducible exact T0 | (focus (refine six_kept T0b ?_; (repeat (first | with_reducible exact G8 | with_reducible exact gbRefl W6 none | with_reducible refine gbDrew ?_ | with_reducible refine gbAllocN ?_ _ | with_reducible refine gbSetNew ?_ _ _ _ (by with_reducible first | exact Nat.le_refl _ | exact G8.size | exact Nat.le_succ _ | exact Nat.le_succ_of_le G8.size))); done)) | fail)
          ((first | (go_at_call 17; refine ((HC6.out.kept (by repeat (first | with_reducible exact gbRefl W6 none | with_reducible refine gbDrew ?_ | with_reducible refine gbAllocN ?_ _))).rc.gcap x K1 O1 R1 B1 G1 N1 N2 A2 E2 ⟨k2, o2, r2, b2, g2, n2⟩ io hp HR2.out).mono ?_; rintro _ u8 ⟨rfl, g8⟩; (first | (have zz9 := iiF W6 g8; obtain ⟨⟨s0, s1, _⟩, sf, ne1, ne2'⟩ := id zz9; have sf0 := sf 0; have sf1 := sf 1; clear sf) | (have zz9 := iiiF W6 g8; obtain ⟨⟨z0, z1, z2, z3, z4, z5, _, zf⟩, ne1, ne2'⟩ := id zz9; have zf0 := zf 0; have zf1 := zf 1; have zf2 := zf 2; have zf3 := zf 3; have zf4 := zf 4; have zf5 := zf 5; clear zf) | (have zz9 := ivF W6 g8; obtain ⟨⟨s0, s1, _⟩, sf, ⟨z0, z1, z2, z3, z4, z5, _, zf⟩⟩ := id zz9; have sf0 := sf 0; have sf1 := sf 1; clear sf; have zf0 := zf 0; have zf1 := zf 1; have zf2 := zf 2; have zf3 := zf 3; have zf4 := zf 4; have zf5 := zf 5; clear zf) | (have zz9 := vF W6 g8; obtain ⟨⟨s0, s1, _⟩, sf, ⟨z0, z1, z2, z3, z4, z5, _, zf⟩⟩ := id zz9; have sf0 := sf 0; have sf1 := sf 1; clear sf; have zf0 := zf 0; have zf1 := zf 1; have zf2 := zf 2; have zf3 := zf 3; have zf4 := zf 4; have zf5 := zf 5; clear zf) | skip); have G8 : W6.grownBy u8 none := (by refine gbTrans ?_ g8; repeat (first | with_reducible exact gbRefl W6 none | with_reducible refine gbDrew ?_ | with_reducible refine gbAllocN ?_ _))) | fail))
        · rename_i hold
          clear hold T0 T0b
          obtain ⟨W7, hW7, a7, b7, g7⟩ := two1 G8 N2 A2 ⟨k2, o2, r2, b2, g2, n2⟩
          simp only at hW7
          rw [hW7]
          go_wp2
          go_meet
          exact ⟨_, _, rfl, rfl, rfl, a7, b7, g7⟩
        · rename_i hold
          clear hold T0 T0b
          obtain ⟨W7, hW7, a7, b7, g7⟩ := two2 G8 N2 A2 ⟨k2, o2, r2, b2, g2, n2⟩
          simp only at hW7
          rw [hW7]
          go_wp2
          go_meet
          exact ⟨_, _, rfl, rfl, rfl, a7, b7, g7⟩
        · rename_i hold
          clear hold T0 T0b
          obtain ⟨W7, hW7, a7, b7, g7⟩ := two3 G8 zz9.1 (Nat.le_refl _) N2 A2 ⟨k2, o2, r2, b2, g2, n2⟩
          simp only at hW7
          rw [hW7]
          go_wp2
          go_meet
          exact ⟨_, _, rfl, rfl, rfl, a7, b7, g7⟩
        · rename_i hold
          clear hold T0 T0b
          obtain ⟨W7, hW7, a7, b7, g7⟩ := two4 G8 zz9.1 zz9.2.2 (Nat.le_refl _) N2 A2 ⟨k2, o2, r2, b2, g2, n2⟩
          simp only at hW7
          rw [hW7]
          go_wp2
          go_meet
          exact ⟨_, _, rfl, rfl, rfl, a7, b7, g7⟩
        · rename_i hold
          clear hold T0 T0b
          obtain ⟨W7, hW7, a7, b7, g7⟩ := two5 G8 zz9.1 (Nat.le_refl _) N2 A2 ⟨k2, o2, r2, b2, g2, n2⟩
          simp only at hW7
          rw [hW7]
          go_wp2
          go_meet
          exact ⟨_, _, rfl, rfl, rfl, a7, b7, g7⟩
        · rename_i hold
          clear hold T0 T0b
          obtain ⟨W7, hW7, a7, b7, g7⟩ := two6 G8 zz9.1 zz9.2.2 (Nat.le_refl _) N2 A2 ⟨k2, o2, r2, b2, g2, n2⟩
          simp only at hW7
          rw [hW7]
          go_wp2
          go_meet
          exact ⟨_, _, rfl, rfl, rfl, a7, b7, g7⟩
      case rest =>
      obtain ⟨Z, Y, rfl, rfl, rfl, HZ7, HY7, G7⟩ := hcut
      obtain ⟨wd, rfl⟩ : ∃ wd, wd = wc := ⟨_, rfl⟩
      have HC7 := hideIt (HC6.out.kept G7.out)
      have HX7 := hideIt (HX6.out.kept G7.out)
      have HS7 := hideIt (HY6.out.kept G7.out)
      have HT7 := hideIt (HZ6.out.kept G7.out)
      clear HC6 HX6 HY6 HZ6 G7
      obtain ⟨x0, x1, x2, x3, x4, x5⟩ := HX7.out.tup
      simp only at x0 x1 x2 x3 x4 x5
      go_wp2_with fail
      refine (HC7.out.cs.slotA x K1 O1 R1 B1 G1 N1 dp N3 A3 E3 io hp HR3.out).mono ?_
      rintro _ w9 ⟨rfl, g9⟩
      clear x0 x1 x2 x3 x4 x5
      go_upto_region 13 with fail
      obtain ⟨W9, hW9, Y9, g10⟩ := sboxNew w9 N3 A3
      rw [hW9]
      clear hW9
      have HC9 := hideIt (HC7.out.kept (gbTrans g9 g10))
      have HX9 := hideIt (HX7.out.kept (gbTrans g9 g10))
      have HS9 := hideIt (HS7.out.kept (gbTrans g9 g10))
      have HT9 := hideIt (HT7.out.kept (gbTrans g9 g10))
      have HZ9 := hideIt (HZ7.out.kept (gbTrans g9 g10))
      have HY9 := hideIt (HY7.out.kept (gbTrans g9 g10))
      have HU9 := hideIt Y9
      clear Y9 g9 g10 HC7 HX7 HS7 HT7 HZ7 HY7
      go_cut [21, 22] from 137 to 146 (fun s21 s22 wc => ∃ Z : Nat, s21 = .pointer (some ⟨Z, 0, none⟩) ∧ s22 = .int .i64 E3 ∧ Hid (SBox wc Z N3 A3) ∧ Hid (W9.grownBy wc none))
      case first =>
        have T0b : Six W9 w.heap.size ⟨K1, O1, R1, B1, G1, N1⟩ := HX9.out.tup
        have T0 : Six W9.drew w.heap.size ⟨K1, O1, R1, B1, G1, N1⟩ := (HX9.out.kept (gbDrewN W9 1 none)).tup
        go_region_held3 (fun w' => Six w' w.heap.size ⟨K1, O1, R1, B1, G1, N1⟩)
          (first | with_reducible exact T0 | (focus (refine six_kept T0b ?_; (repeat (first | with_reducible exact G8 | with_reducible exact gbRefl W9 none | with_reducible refine gbDrew ?_ | with_reducible refine gbAllocN ?_ _ | with_reducible refine gbSetNew ?_ _ _ _ (by with_reducible first | exact Nat.le_refl _ | exact G8.size))); done)) | fail)
          ((first | (go_at_call 19; refine ((HC9.out.kept (by repeat (first | with_reducible exact gbRefl W9 none | with_reducible refine gbDrew ?_ | with_reducible refine gbAllocN ?_ _))).rc.gfind x K1 O1 R1 B1 G1 N1 dp N3 A3 E3 io hp HR3.out).mono ?_; rintro _ u8 ⟨rfl, g8⟩; have hc8 := gcell g8; have hf8 := gfroz g8; have G8 : W9.grownBy u8 none := (by first | exact gbTrans (gbDrewN W9 1 none) g8 | exact gbTrans (gbDrew (gbAllocN (gbRefl W9 none) _)) g8)) | fail))
        · rename_i hold
          clear hold T0
          obtain ⟨W6', hW6', Z6', g7'⟩ := sboxNew u8 N3 A3
          rw [hW6']
          go_wp2
          go_meet
          exact ⟨_, rfl, rfl, Z6', gbTrans G8 g7'⟩
        · rename_i hold
          clear hold T0
          have Z0 : SBox u8 W9.heap.size 0 0 := ((SBox.made W9 0 0).kept (gbDrew (gbRefl _ none))).kept g8
          obtain ⟨W6', hW6', Z6', g7'⟩ := sboxPut Z0 N3 A3
          rw [hW6']
          go_wp2
          go_meet
          exact ⟨_, rfl, rfl, Z6', gbNew (gbTrans (gbAny G8 _) g7') (Nat.le_refl _)⟩
      case rest =>
      obtain ⟨Z3, rfl, rfl, HV9, G9⟩ := hcut
      obtain ⟨c0, c1, _⟩ := HS9.out.kept G9.out
      obtain ⟨d0, d1, _⟩ := HZ9.out.kept G9.out
      obtain ⟨e0, e1, e2, e3, e4, e5, _, _⟩ := HT9.out.kept G9.out
      obtain ⟨f0, f1, f2, f3, f4, f5, _, _⟩ := HY9.out.kept G9.out
      obtain ⟨i0, i1, _⟩ := HU9.out.kept G9.out
      obtain ⟨j0, j1, _⟩ := HV9.out
      simp only at e0 e1 e2 e3 e4 e5 f0 f1 f2 f3 f4 f5
      have qn := run_eql_cap
      have qe := eqGuardCap
      have qs := T9.run_eql_slots
      have qg := T9.eqGuardSlots
      have qr : M.eq ⟨k2, o2, r2, b2, g2, n2⟩ ⟨k2, o2, r2, b2, g2, n2⟩ = true := M.eq_refl _
      have qz : T9.M.seq N2 A2 N2 A2 = true := seq_iff.2 rfl
      have qy : T9.M.seq N3 A3 N3 A3 = true := seq_iff.2 rfl
      have GE := hideIt (gbTrans HG0.out (gbTrans HC9.out.gr G9.out))
      go_wp2
      go_ret
      exact ⟨rfl, gbEnd GE.out⟩

theorem walk (x0 : Option Addr) (len0 cap0 : Nat) (K1 O1 R1 B1 G1 N1 : Int) (io1 : I64 O1) (ub1 : 0 ≤ B1) (ug1 : 0 ≤ G1) (a2 : Int) (w2 : (Lit.int .u64 a2).wf = true) (a3 : Int) (w : World) (hx0 : ∀ i, i < len0 → ∃ x q, x0 = some x ∧ El18 w (x.add (i * 18)) q ∧ Op18 q) :
    Calls Tryz.prog 3 #[.slice x0 len0 cap0, cv ⟨K1, O1, R1, B1, G1, N1⟩, .int .u64 a2, .int .i64 a3] w fun e w' => e = .returned (.bool true) ∧ Below w.heap.size w w' := by
  have u : (0 : Int) ≤ a2 ∧ a2 < 18446744073709551616 := by
    unfold Lit.wf at w2
    rw [Bool.and_eq_true, decide_eq_true_eq, decide_eq_true_eq] at w2
    have e1 : IntKind.u64.min = 0 := by decide
    have e2 : IntKind.u64.max = 18446744073709551615 := by decide
    rw [e1, e2] at w2
    omega
  obtain ⟨A, rfl⟩ : ∃ A : Nat, a2 = A := ⟨a2.toNat, by have := u.1; omega⟩
  exact core x0 len0 cap0 K1 O1 R1 B1 G1 N1 io1 A (by have := u.2; omega) a3 w hx0

set_option maxRecDepth 100000 in
theorem lifted (os : Os) (started : os.Started) (H : Type) (enc : TypeId × Value → H) :
    ReturnsInHanded {} Tryz.checked os 3 .any (Rows.movesDoesSpec.pre6 enc Tryz.prog Tryz.f3 Rows.movesDoesRow.domain false) (Rows.movesDoesSpec.post enc Tryz.prog Tryz.f3 false true false false) := by
  refine returnsInHanded_of_change (C := Tryz.checked) own started (by kernel_rfl) Tryz.func3
    (ChangeSpec.witness6 (enc := enc) (C := Tryz.checked) false ⟨#[], #[.slice none 0 0, .agg #[.int .i64 0, .int .i64 0, .int .i64 0, .int .u64 0, .int .u64 0, .int .i64 0], .int .u64 0, .int .i64 0], []⟩ 8 (by kernel_rfl) (by kernel_rfl) (by kernel_rfl) (by kernel_rfl)) ?_
  intro W base args ds gs before hval0 hW hcnd _
  have hval : ∀ (j : Nat) t v, Tryz.f3.params[j]? = some t → args[j]? = some v → Value.okWide Tryz.prog W .any base t v := hval0
  have hW' := hW
  obtain ⟨p, q, hA0, hV, rfl, hfz, hnd⟩ := hW
  have hA : DataW.TrodAll enc Tryz.prog W 0 (fun _ => true) true Tryz.f3.params.toList args.toList ds p := hA0
  rw [Tryz.params3] at hA hval
  obtain ⟨v0, vs0, d0, ds0, p0, q0, hargs, rfl, rfl, h0, r0⟩ := trodAll_cons hA
  obtain ⟨v1, vs1, d1, ds1, p1, q1, rfl, rfl, rfl, h1, r1⟩ := trodAll_cons r0
  obtain ⟨v2, vs2, d2, ds2, p2, q2, rfl, rfl, rfl, h2, r2⟩ := trodAll_cons r1
  obtain ⟨v3, vs3, d3, ds3, p3, q3, rfl, rfl, rfl, h3, r3⟩ := trodAll_cons r2
  obtain ⟨rfl, rfl, rfl⟩ := trodAll_nil r3
  obtain rfl : args = #[v0, v1, v2, v3] := by cases args; simp_all
  obtain ⟨rfl, rfl⟩ := trodVars_none hV
  obtain ⟨x0, len0, cap0, rfl⟩ := okWide_slice Tryz.underlying22 (hval 0 22 v0 rfl rfl)
  have hx0 := opsArg h0
  have k0 := h0
  have lt0 : ∀ x ∈ p0, x.block < W.heap.size := by obtain ⟨m, hm⟩ := k0; exact DataW.trod_lt m _ _ _ hm
  obtain ⟨K1, O1, R1, B1, G1, N1, rfl, io1, ub1, ug1⟩ := capArg (hval 1 25 v1 rfl rfl) h1
  have k1 := h1
  have lt1 : ∀ x ∈ p1, x.block < W.heap.size := by obtain ⟨m, hm⟩ := k1; exact DataW.trod_lt m _ _ _ hm
  obtain ⟨a2, rfl, rfl, rfl, w2⟩ := open_int Tryz.underlying23 (hval 2 23 v2 rfl rfl) h2
  obtain ⟨a3, rfl, rfl, rfl, w3⟩ := open_int Tryz.underlying3 (hval 3 3 v3 rfl rfl) h3
  clear hA0 hval0
  refine (walk x0 len0 cap0 K1 O1 R1 B1 G1 N1 io1 ub1 ug1 a2 w2 a3 W hx0).mono fun e W' ⟨he, bel⟩ => ?_
  subst he
  exact ⟨_, rfl, _, _, _, [], _, [], hW', trodAll_mk1 (shut_bool Tryz.underlying4 _), (trodAll_cons_mk (Below.trod laidOut (by kernel_rfl) (of_decide_eq_true (by kernel_rfl)) k0 bel lt0) (trodAll_cons_mk (Below.trod laidOut (by kernel_rfl) (of_decide_eq_true (by kernel_rfl)) k1 bel lt1) (trodAll_cons_mk (shut_int Tryz.underlying23 w2) (trodAll_cons_mk (shut_int Tryz.underlying3 w3) trodAll_mk0)))), rfl, bel.frame _, fun h => by cases h⟩

theorem over : Rows.movesDoesRow.holds Tryz.pinned (OpenSpec.ofChange Rows.movesDoesSpec) :=
  OpenClaim.holds_of_wide 3 Tryz.f3 rfl rfl rfl rfl rfl rfl rfl ⟨rfl, rfl, rfl, rfl, rfl⟩ rfl rfl rfl rfl rfl (by kernel_rfl) Tryz.func3 (by kernel_rfl)
    (of_decide_eq_true (by kernel_rfl)) (by unfold Func.isWrapper; first | (rw [if_pos (by decide +kernel)]; kernel_rfl) | (rw [if_neg (by decide +kernel)]; exact ⟨rfl, rfl⟩))
    (fun os started H enc _ => lifted os started H enc)

theorem proved : Rows.MovesDoesSaid := over
end Go.Proofs.YtdnoidnpiaadaaaGreat.movesDoes
namespace Go.Proofs.YtdnoidnpiaadaaaGreat
theorem movesDoes_holds : Rows.MovesDoesSaid := movesDoes.proved
#print axioms movesDoes_holds
end Go.Proofs.YtdnoidnpiaadaaaGreat
