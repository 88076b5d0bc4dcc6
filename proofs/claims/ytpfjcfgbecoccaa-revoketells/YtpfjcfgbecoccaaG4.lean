/-
  THE CONTRACT of slices.Replace at slots' names, where one element gives way to a list that lies elsewhere.
-/
import Derived.Test.YtpfjcfgbecoccaaTCut
import Derived.Deep.RegionLaw
import Derived.Test.YtpfjcfgbecoccaaTPlain
namespace Go.Proofs.Ytpfjcfgbecoccaa
set_option maxRecDepth 10000
namespace T9
open Go.RowKit
set_option linter.unusedVariables false

set_option maxRecDepth 10000 in
set_option maxHeartbeats 1000000 in
theorem replace_end (w : World) (B g n cap i m c : Nat) (ox : Option Addr) (L K : List (Int × Int)) (hn : Hid (L.length = n)) (hn2 : n ≤ 1000) (HL : Hid (Lst w B (.slice (some ⟨g, 0, none⟩) n cap) L)) (hi : i + 1 = n) (hB : Hid (B ≤ w.heap.size))
    (hm : Hid (K.length = m)) (hm1 : 1 ≤ m) (hm2 : m ≤ 1000) (hno : Hid (ox = none → m = 0)) (HK : Hid (∀ ad, ox = some ad → Row w ad K)) (hcap : n ≤ cap) :
    Calls Try.prog 77 #[.slice (some ⟨g, 0, none⟩) n cap, .int .i64 i, .int .i64 n, .slice ox m c] w fun e w' => ∃ v', e = .returned v' ∧ Lst w' B v' (L.take i ++ K) ∧ w.grownBy w' (some g) ∧ (v'.ownBlock = some g ∨ v'.ownBlock = some w.heap.size) := by
  have HT : Hid (Lst w B (.slice (some ⟨g, 0, none⟩) i cap) (L.take i)) := hideIt (HL.out.cutTo hn.out i (by omega))
  have hli : Hid ((L.take i).length + m ≤ 1000000) := hideIt (by rw [List.length_take]; omega)
  obtain ⟨k, hk⟩ : ∃ k, i + m = k := ⟨_, rfl⟩
  have hll : Hid ((L.take i ++ K).length = k) := hideIt (by rw [List.length_append, List.length_take, hm.out, hn.out]; omega)
  have hk0 : Hid (0 < k) := hideIt (by omega)
  have hkn : ¬ (k : Int) < (n : Int) := by omega
  have hic : (i : Int) ≤ (cap : Int) := by omega
  have hin : ¬ (i : Int) = (n : Int) := by omega
  have hnc : (n : Int) ≤ (cap : Int) := by omega
  have hin' : (i : Int) ≤ (n : Int) := by omega
  clear hk
  go_enter Try.func77, Try.ntmps77
  go_wp2_with (at_builtin; refine wpList_append_slots rfl (.tmp 32) (.tmp 33) rfl B (.slice (some ⟨g, 0, none⟩) i cap) (L.take i) rfl HT.out ox m c K rfl hm.out hno.out HK.out hli.out hB.out ?_; intro v1 w1 l1 g1 o1; obtain ⟨g', cap', rfl⟩ := l1.shape hll.out hk0.out; have l1 : Hid (Lst w1 B (.slice (some ⟨g', 0, none⟩) k cap') (L.take i ++ K)) := l1; have o1 := hideIt o1)
  go_ret
  exact ⟨_, rfl, l1.out, g1, o1.out⟩

set_option maxRecDepth 10000 in
set_option maxHeartbeats 1000000 in
theorem replace_end0 (w : World) (B g n cap i c : Nat) (ox : Option Addr) (L : List (Int × Int)) (hn : Hid (L.length = n)) (hn2 : n ≤ 1000) (HL : Hid (Lst w B (.slice (some ⟨g, 0, none⟩) n cap) L)) (hi : i + 1 = n) (hcap : n ≤ cap) :
    Calls Try.prog 77 #[.slice (some ⟨g, 0, none⟩) n cap, .int .i64 i, .int .i64 n, .slice ox 0 c] w fun e w' => ∃ v', e = .returned v' ∧ Lst w' B v' (L.take i) ∧ w.grownBy w' (some g) ∧ v'.ownBlock = some g := by
  obtain ⟨cur, hg, hc, hcm, ht, hB, _⟩ := HL.out.open hn.out
  have Hg := hideIt hg
  have HE : Hid (∀ w', w'.heap[g]? = some (.cells (splice cur (i * 2) [.int .i64 0, .int .i64 0]).toArray 24 (0, 0)) → Lst w' B (.slice (some ⟨g, 0, none⟩) i cap) (L.take i)) := hideIt (fun w' hg' => by
    refine Lst.of hB hg' (by rw [length_splice _ _ _ (by simp; omega)]; exact hc) hcm (by omega) (by rw [List.length_take, hn.out]; omega) ?_
    rw [take_splice' _ _ _ (by omega), cellsL_take, ← ht, List.take_take, Nat.min_eq_left (by omega)])
  obtain ⟨w1, hr1, hg1, g1⟩ := clear1_run w 0 g (i * 2) (cap - i) cur hg (by omega)
  clear hg hc hcm ht hB
  have hni : n - i = 1 := by omega
  have hic : (i : Int) ≤ (cap : Int) := by omega
  have hic' : i ≤ cap := by omega
  have hin : ¬ (i : Int) = (n : Int) := by omega
  have hnc : (n : Int) ≤ (cap : Int) := by omega
  have hin' : (i : Int) ≤ (n : Int) := by omega
  have hin2 : (i : Int) < (n : Int) := by omega
  go_enter Try.func77, Try.ntmps77
  go_wp2_with (at_builtin; refine wpList_append_zero rfl (.tmp 32) (.tmp 33) rfl g i cap hic' ox c rfl rfl ?_)
  go_ret
  exact ⟨_, rfl, HE.out _ hg1.out, g1, rfl⟩

set_option maxRecDepth 10000 in
set_option maxHeartbeats 1000000 in
theorem replace_wide (w : World) (B g h n cap i j m c im tot : Nat) (L K : List (Int × Int)) (hn : Hid (L.length = n)) (hn2 : n ≤ 1000) (HL : Hid (Lst w B (.slice (some ⟨g, 0, none⟩) n cap) L)) (hj : i + 1 = j) (hjn : j < n)
    (hm : Hid (K.length = m)) (hm1 : 2 ≤ m) (hm2 : m ≤ 1000) (HK : Hid (Lst w 0 (.slice (some ⟨h, 0, none⟩) m c) K)) (hgh : g ≠ h) (him : i + m = im) (nj : Nat) (hnj0 : n - j = nj) (htot : im + nj = tot) (hroom : tot ≤ cap) :
    Calls Try.prog 77 #[.slice (some ⟨g, 0, none⟩) n cap, .int .i64 i, .int .i64 j, .slice (some ⟨h, 0, none⟩) m c] w fun e w' => ∃ v', e = .returned v' ∧ Lst w' B v' (L.take i ++ (K ++ L.drop j)) ∧ w.grownBy w' (some g) ∧ v'.ownBlock = some g := by
  obtain ⟨cur, hg, hc, hcm, ht, hB, _⟩ := HL.out.open hn.out
  obtain ⟨cur', hh, hc', hcm', ht', _, hmc⟩ := HK.out.open hm.out
  have Hg := hideIt hg
  have Hh := hideIt hh
  have Hne : Hid (cur' ≠ []) := hideIt (fun e => by rw [e] at hc'; simp at hc'; omega)
  have HF1 : Hid (im * 2 + (cellsL (L.drop j)).length ≤ cur.length) := hideIt (by rw [cellsL_len, List.length_drop, hn.out]; omega)
  have HC1 : Hid ((cellsL (L.drop j)).length = Nat.min nj nj * 2) := hideIt (by rw [cellsL_len, List.length_drop, hn.out, hnj0]; simp)
  have HC2 : Hid ((cellsL K).length = Nat.min m (tot - i) * 2) := hideIt (by rw [cellsL_len, hm.out]; show _ = min m (tot - i) * 2; omega)
  have HS1 : Hid (∀ w1, w.grownBy w1 none → ∀ q v, (cellsL (L.drop j))[q]? = some v → w1.cell? ((⟨g, j * 2, none⟩ : Addr).add q) = some v) := hideIt (fun w1 g1 q v hv => by
    rw [Addr.add_lit]
    refine g1.cell ?_ (by simp)
    rw [blkCell hg]
    rw [cellsL_drop, ← ht, List.getElem?_drop, List.getElem?_take] at hv
    split at hv
    · exact hv
    · cases hv)
  have HS2 : Hid (∀ w1, w.grownBy w1 (some g) → ∀ q v, (cellsL K)[q]? = some v → w1.cell? ((⟨h, 0, none⟩ : Addr).add q) = some v) := hideIt (fun w1 g1 q v hv => by
    rw [Addr.add_lit]
    refine g1.cell ?_ (by simp; exact fun e => hgh e.symm)
    rw [blkCell hh]
    rw [← ht', List.getElem?_take] at hv
    split at hv
    · rw [Nat.zero_add]; exact hv
    · cases hv)
  have HE : Hid (∀ w', w'.heap[g]? = some (.cells (splice (splice cur (im * 2) (cellsL (L.drop j))) (i * 2) (cellsL K)).toArray 24 (0, 0)) → Lst w' B (.slice (some ⟨g, 0, none⟩) tot cap) (L.take i ++ (K ++ L.drop j))) := hideIt (fun w' hg' => by
    have lK : (cellsL K).length = m * 2 := by rw [cellsL_len, hm.out]
    have lZ : (cellsL (L.drop j)).length = nj * 2 := by rw [cellsL_len, List.length_drop, hn.out, hnj0]
    have l1 : (splice cur (im * 2) (cellsL (L.drop j))).length = cur.length := length_splice _ _ _ HF1.out
    refine Lst.of hB hg' (by rw [length_splice _ _ _ (by rw [l1, lK]; omega), l1]; exact hc) hcm hroom (by rw [List.length_append, List.length_append, List.length_take, List.length_drop, hn.out, hm.out]; omega) ?_
    have := splice_b cur (cellsL K) (cellsL (L.drop j)) (i * 2) (by rw [lK, lZ]; omega)
    rw [lK, lZ, show i * 2 + m * 2 = im * 2 by omega, show im * 2 + nj * 2 = tot * 2 by omega] at this
    rw [this, ← cellsL_app, ← cellsL_app, cellsL_take, ← ht, List.take_take, Nat.min_eq_left (by omega)])
  have HF2 : Hid (i * 2 + (cellsL K).length ≤ (splice cur (im * 2) (cellsL (L.drop j))).length) := hideIt (by rw [length_splice _ _ _ HF1.out, cellsL_len, hm.out]; omega)
  have hti : tot - im = nj := by omega
  have hic : (i : Int) ≤ (cap : Int) := by omega
  have hij : ¬ (i : Int) = (j : Int) := by omega
  have hij' : (i : Int) ≤ (j : Int) := by omega
  have hjc : (j : Int) ≤ (cap : Int) := by omega
  have hjn1 : ¬ (j : Int) = (n : Int) := by omega
  have hjn2 : (j : Int) ≤ (n : Int) := by omega
  have him' : (i : Int) + (m : Int) = (im : Int) := by omega
  have htot' : (im : Int) + (nj : Int) = (tot : Int) := by omega
  have hroom' : ¬ (cap : Int) < (tot : Int) := by omega
  have hroom2 : (tot : Int) ≤ (cap : Int) := by omega
  have himj : ¬ (im : Int) ≤ (j : Int) := by omega
  have himt : (im : Int) ≤ (tot : Int) := by omega
  have hit : (i : Int) ≤ (tot : Int) := by omega
  have hw : IntKind.i64.wrap (im : Int) = (im : Int) := by rw [IntKind.wrap_i64]; omega
  have hcim : ¬ cap = im := by omega
  have hcj : ¬ cap = j := by omega
  have hci : ¬ cap = i := by omega
  clear hg hh hc' hcm' ht' hc hcm ht
  go_enter Try.func77, Try.ntmps77
  go_upto_region 9 with fail
  refine wp_region_grown (by kernel_rfl) (by kernel_rfl) fun _ => ?_
  repeat (go_big_quiet_step (fail))
  refine wpQuiet_nil ?_
  rintro w1 ⟨⟨_, g1⟩, rfl⟩
  have hov := overlaps_run w1 g h (im * 2) nj (cap - im) m c cur cur' hgh ((g1.block g (Array.getElem?_eq_some_iff.1 Hg.out).1 (by simp)).trans Hg.out) ((g1.block h (Array.getElem?_eq_some_iff.1 Hh.out).1 (by simp)).trans Hh.out) Hne.out
  have g1d := gbDrew g1
  have Hg1 : Hid (w1.drew.heap[g]? = some (.cells cur.toArray 24 (0, 0))) := hideIt ((g1.block g (Array.getElem?_eq_some_iff.1 Hg.out).1 (by simp)).trans Hg.out)
  obtain ⟨w2, hr2, hg2, g2⟩ := copied2 w1.drew 3 (some ⟨g, im * 2, none⟩) (some ⟨g, j * 2, none⟩) nj (cap - im) nj (cap - j) g (im * 2) cur Hg1.out (cellsL (L.drop j)) HC1.out (fun _ => ⟨rfl, _, rfl, HS1.out w1.drew g1d⟩) HF1.out (cellsL_one _)
  have g2w : w.grownBy w2 (some g) := gbTrans (gbAny g1d _) g2
  obtain ⟨w3, hr3, hg3, g3⟩ := copied2 w2 3 (some ⟨g, i * 2, none⟩) (some ⟨h, 0, none⟩) (tot - i) (cap - i) m c g (i * 2) _ hg2 (cellsL K) HC2.out (fun _ => ⟨rfl, _, rfl, HS2.out w2 g2w⟩) HF2.out (cellsL_one _)
  have HL3 := hideIt (HE.out w3 hg3)
  clear hg2 hg3
  go_upto_region 22 with fail
  go_region
  go_wp2
  go_ret
  exact ⟨_, rfl, HL3.out, gbTrans g2w g3, rfl⟩

set_option maxRecDepth 10000 in
set_option maxHeartbeats 1000000 in
theorem replace_grow (w : World) (B g h n cap i j m c im tot : Nat) (L K : List (Int × Int)) (hn : Hid (L.length = n)) (hn2 : n ≤ 1000) (HL : Hid (Lst w B (.slice (some ⟨g, 0, none⟩) n cap) L)) (hj : i + 1 = j) (hjn : j < n) (hB : Hid (B ≤ w.heap.size))
    (hm : Hid (K.length = m)) (hm1 : 2 ≤ m) (hm2 : m ≤ 1000) (HK : Hid (Lst w 0 (.slice (some ⟨h, 0, none⟩) m c) K)) (him : i + m = im) (nj : Nat) (hnj0 : n - j = nj) (htot : im + nj = tot) (hroom : cap < tot) :
    Calls Try.prog 77 #[.slice (some ⟨g, 0, none⟩) n cap, .int .i64 i, .int .i64 j, .slice (some ⟨h, 0, none⟩) m c] w fun e w' => ∃ v' G, e = .returned v' ∧ Lst w' B v' (L.take i ++ (K ++ L.drop j)) ∧ w.grownBy w' none ∧ v'.ownBlock = some G ∧ w.heap.size ≤ G := by
  obtain ⟨cur, hg, hc, hcm, ht, _, hncap⟩ := HL.out.open hn.out
  obtain ⟨cur', hh, hc', hcm', ht', _, hmc⟩ := HK.out.open hm.out
  have HR : Hid (Row w ⟨g, 0, none⟩ (L.take i)) := hideIt (HL.out.cutTo hn.out i (by omega)).rowOf
  have hLi : Hid ((L.take i).length = i) := hideIt (by rw [List.length_take, hn.out]; omega)
  have lK : (cellsL K).length = m * 2 := by rw [cellsL_len, hm.out]
  have lZ : (cellsL (L.drop j)).length = nj * 2 := by rw [cellsL_len, List.length_drop, hn.out, hnj0]
  have HC1 : Hid ((cellsL (L.drop j)).length = Nat.min nj nj * 2) := hideIt (by rw [lZ]; simp)
  have HC2 : Hid ((cellsL K).length = Nat.min m (tot - i) * 2) := hideIt (by rw [lK]; show _ = min m (tot - i) * 2; omega)
  have hglt : g < w.heap.size := (Array.getElem?_eq_some_iff.1 hg).1
  have hhlt : h < w.heap.size := (Array.getElem?_eq_some_iff.1 hh).1
  have HS1 : Hid (∀ w1, w.grownBy w1 none → ∀ q v, (cellsL (L.drop j))[q]? = some v → w1.cell? ((⟨g, j * 2, none⟩ : Addr).add q) = some v) := hideIt (fun w1 g1 q v hv => by
    rw [Addr.add_lit]
    refine g1.cell ?_ (by simp)
    rw [blkCell hg]
    rw [cellsL_drop, ← ht, List.getElem?_drop, List.getElem?_take] at hv
    split at hv
    · exact hv
    · cases hv)
  have HS2 : Hid (∀ w1, w.grownBy w1 none → ∀ q v, (cellsL K)[q]? = some v → w1.cell? ((⟨h, 0, none⟩ : Addr).add q) = some v) := hideIt (fun w1 g1 q v hv => by
    rw [Addr.add_lit]
    refine g1.cell ?_ (by simp)
    rw [blkCell hh]
    rw [← ht', List.getElem?_take] at hv
    split at hv
    · rw [Nat.zero_add]; exact hv
    · cases hv)
  have HE : Hid (∀ w' G, B ≤ G → ∀ cap2 C, (C : List Value).length = cap2 * 2 → cap2 ≤ maxLen → tot ≤ cap2 → C.take (i * 2) = cellsL (L.take i) → w'.heap[G]? = some (.cells (splice (splice C (i * 2) (cellsL K)) (im * 2) (cellsL (L.drop j))).toArray 24 (0, 0)) → Lst w' B (.slice (some ⟨G, 0, none⟩) tot cap2) (L.take i ++ (K ++ L.drop j))) := hideIt (fun w' G hG cap2 C hC hcm2 htc hCt hg' => by
    have l1 : (splice C (i * 2) (cellsL K)).length = C.length := length_splice _ _ _ (by rw [lK]; omega)
    refine Lst.of hG hg' (by rw [length_splice _ _ _ (by rw [l1, lZ]; omega), l1]; exact hC) hcm2 htc (by rw [List.length_append, List.length_append, List.length_take, List.length_drop, hn.out, hm.out]; omega) ?_
    have := splice_a C (cellsL K) (cellsL (L.drop j)) (i * 2) (by rw [lK, lZ]; omega)
    rw [lK, lZ, show i * 2 + m * 2 = im * 2 by omega, show im * 2 + nj * 2 = tot * 2 by omega] at this
    rw [this, hCt, cellsL_app, cellsL_app])
  have HF1 : Hid (∀ cap2 C, (C : List Value).length = cap2 * 2 → tot ≤ cap2 → i * 2 + (cellsL K).length ≤ C.length ∧ im * 2 + (cellsL (L.drop j)).length ≤ (splice C (i * 2) (cellsL K)).length) := hideIt (fun cap2 C hC h2 => by
    have h3 : i * 2 + (cellsL K).length ≤ C.length := by rw [lK]; omega
    exact ⟨h3, by rw [length_splice _ _ _ h3, lZ]; omega⟩)
  obtain ⟨k, hk⟩ : ∃ k, tot - i = k := ⟨_, rfl⟩
  have hk0 : 0 < k := by omega
  have hk1 : k ≤ 100000 := by omega
  have hi1 : i ≤ 100000 := by omega
  have hik : Hid (i + k = tot) := hideIt (by omega)
  have hk' : (tot : Int) - (i : Int) = (k : Int) := by omega
  have hti : tot - im = nj := by omega
  have hic : (i : Int) ≤ (cap : Int) := by omega
  have hij : ¬ (i : Int) = (j : Int) := by omega
  have hij' : (i : Int) ≤ (j : Int) := by omega
  have hjc : (j : Int) ≤ (cap : Int) := by omega
  have hjn1 : ¬ (j : Int) = (n : Int) := by omega
  have hjn2 : (j : Int) ≤ (n : Int) := by omega
  have him' : (i : Int) + (m : Int) = (im : Int) := by omega
  have htot' : (im : Int) + (nj : Int) = (tot : Int) := by omega
  have hroom' : (cap : Int) < (tot : Int) := by omega
  have himt : (im : Int) ≤ (tot : Int) := by omega
  have hit : (i : Int) ≤ (tot : Int) := by omega
  have hw : IntKind.i64.wrap (im : Int) = (im : Int) := by rw [IntKind.wrap_i64]; omega
  have hcj : ¬ cap = j := by omega
  clear hg hh hc' hcm' ht' hc hcm ht hk lK lZ
  go_enter Try.func77, Try.ntmps77
  go_upto_region 9 with fail
  refine wp_region_grown (by kernel_rfl) (by kernel_rfl) fun _ => ?_
  repeat (go_big_quiet_step (fail))
  refine wpQuiet_nil ?_
  rintro w1 ⟨⟨_, g1⟩, rfl⟩
  have hz1 := g1.size
  go_upto_region 12 with (at_builtin; refine wpList_append_zeros rfl (.tmp 63) (.tmp 66) rfl g i cap k (L.take i) rfl rfl hLi.out (HR.out.kept g1) hk0 hk1 hi1 tot hik.out hroom ?_; intro w2 cap2 C hg2 hC hcm2 htc hCt g2)
  have gw2 := gbTrans g1 g2
  obtain ⟨hf1, hf2⟩ := HF1.out cap2 C hC htc
  obtain ⟨w3, hr3, hg3, g3⟩ := copied2 w2 3 (some ⟨w1.heap.size, i * 2, none⟩) (some ⟨h, 0, none⟩) (tot - i) (cap2 - i) m c w1.heap.size (i * 2) C hg2.out (cellsL K) HC2.out (fun _ => ⟨rfl, _, rfl, HS2.out w2 gw2⟩) hf1 (cellsL_one _)
  have gw3 : w.grownBy w3 none := gbNew (gbTrans (gbAny gw2 _) g3) hz1
  have gw3d := gbDrew gw3
  have hg3d : w3.drew.heap[w1.heap.size]? = _ := hg3
  obtain ⟨w4, hr4, hg4, g4⟩ := copied2 w3.drew 3 (some ⟨w1.heap.size, im * 2, none⟩) (some ⟨g, j * 2, none⟩) nj (cap2 - im) nj (cap - j) w1.heap.size (im * 2) _ hg3d (cellsL (L.drop j)) HC1.out (fun _ => ⟨rfl, _, rfl, HS1.out w3.drew gw3d⟩) hf2 (cellsL_one _)
  have HL4 := hideIt (HE.out w4 w1.heap.size (Nat.le_trans hB.out hz1) cap2 C hC hcm2 htc hCt.out hg4)
  have gw4 : w.grownBy w4 none := gbNew (gbTrans (gbAny gw3d _) g4) hz1
  have hc2i : ¬ cap2 = i := by omega
  have hc2m : ¬ cap2 = im := by omega
  have htc' : (tot : Int) ≤ (cap2 : Int) := by omega
  clear hg3 hg3d hg4 hf1 hf2 hC
  go_upto_region 13 with fail
  go_region
  go_wp2
  go_ret
  exact ⟨_, w1.heap.size, rfl, HL4.out, gw4, rfl, hz1⟩

set_option maxRecDepth 10000 in
set_option maxHeartbeats 1000000 in
theorem replace_none (w : World) (B g n cap i j c tot : Nat) (ox : Option Addr) (L : List (Int × Int)) (hn : Hid (L.length = n)) (hn2 : n ≤ 1000) (HL : Hid (Lst w B (.slice (some ⟨g, 0, none⟩) n cap) L)) (hj : i + 1 = j) (hjn : j < n) (nj : Nat) (hnj0 : n - j = nj) (htot : i + nj = tot) :
    Calls Try.prog 77 #[.slice (some ⟨g, 0, none⟩) n cap, .int .i64 i, .int .i64 j, .slice ox 0 c] w fun e w' => ∃ v', e = .returned v' ∧ Lst w' B v' (L.take i ++ L.drop j) ∧ w.grownBy w' (some g) ∧ v'.ownBlock = some g := by
  obtain ⟨cur, hg, hc, hcm, ht, hB, hncap⟩ := HL.out.open hn.out
  have Hg := hideIt hg
  have lZ : (cellsL (L.drop j)).length = nj * 2 := by rw [cellsL_len, List.length_drop, hn.out, hnj0]
  have HC1 : Hid ((cellsL (L.drop j)).length = Nat.min nj nj * 2) := hideIt (by rw [lZ]; simp)
  have HS1 : Hid (∀ w1, w.grownBy w1 none → ∀ q v, (cellsL (L.drop j))[q]? = some v → w1.cell? ((⟨g, j * 2, none⟩ : Addr).add q) = some v) := hideIt (fun w1 g1 q v hv => by
    rw [Addr.add_lit]
    refine g1.cell ?_ (by simp)
    rw [blkCell hg]
    rw [cellsL_drop, ← ht, List.getElem?_drop, List.getElem?_take] at hv
    split at hv
    · exact hv
    · cases hv)
  have HF1 : Hid (i * 2 + (cellsL (L.drop j)).length ≤ cur.length) := hideIt (by rw [lZ]; omega)
  have HF2 : Hid (tot * 2 + 2 ≤ (splice cur (i * 2) (cellsL (L.drop j))).length) := hideIt (by rw [length_splice _ _ _ HF1.out]; omega)
  have HE : Hid (∀ w', w'.heap[g]? = some (.cells (splice (splice cur (i * 2) (cellsL (L.drop j))) (tot * 2) [.int .i64 0, .int .i64 0]).toArray 24 (0, 0)) → Lst w' B (.slice (some ⟨g, 0, none⟩) tot cap) (L.take i ++ L.drop j)) := hideIt (fun w' hg' => by
    have l1 : (splice cur (i * 2) (cellsL (L.drop j))).length = cur.length := length_splice _ _ _ HF1.out
    refine Lst.of hB hg' (by rw [length_splice _ _ _ (by rw [l1]; simp; omega), l1]; exact hc) hcm (by omega) (by rw [List.length_append, List.length_take, List.length_drop, hn.out]; omega) ?_
    have := take_splice cur (i * 2) (cellsL (L.drop j)) HF1.out
    rw [lZ, show i * 2 + nj * 2 = tot * 2 by omega] at this
    rw [take_splice' _ _ _ (by rw [l1]; omega), this, ← cellsL_app, cellsL_take, ← ht, List.take_take, Nat.min_eq_left (by omega)])
  have hti : tot - i = nj := by omega
  have hic : (i : Int) ≤ (cap : Int) := by omega
  have hij : ¬ (i : Int) = (j : Int) := by omega
  have hij' : (i : Int) ≤ (j : Int) := by omega
  have hjc : (j : Int) ≤ (cap : Int) := by omega
  have hjn1 : ¬ (j : Int) = (n : Int) := by omega
  have hjn2 : (j : Int) ≤ (n : Int) := by omega
  have htot' : (i : Int) + (nj : Int) = (tot : Int) := by omega
  have hroom' : ¬ (cap : Int) < (tot : Int) := by omega
  have hroom2 : (tot : Int) ≤ (cap : Int) := by omega
  have hit : (i : Int) ≤ (tot : Int) := by omega
  have htn : (tot : Int) ≤ (n : Int) := by omega
  have hw : IntKind.i64.wrap (i : Int) = (i : Int) := by rw [IntKind.wrap_i64]; omega
  have hcj : ¬ cap = j := by omega
  have hci : ¬ cap = i := by omega
  have hct : ¬ cap = tot := by omega
  have hnt : n - tot = 1 := by omega
  clear hg hc hcm ht lZ
  go_enter Try.func77, Try.ntmps77
  go_upto_region 9 with fail
  refine wp_region_grown (by kernel_rfl) (by kernel_rfl) fun _ => ?_
  repeat (go_big_quiet_step (fail))
  refine wpQuiet_nil ?_
  rintro w1 ⟨⟨_, g1⟩, rfl⟩
  have g1d := gbDrew g1
  have Hg1 : Hid (w1.drew.heap[g]? = some (.cells cur.toArray 24 (0, 0))) := hideIt ((g1.block g (Array.getElem?_eq_some_iff.1 Hg.out).1 (by simp)).trans Hg.out)
  have hr1 := run_copy2_none w1 3 (some ⟨g, i * 2, none⟩) ox nj (cap - i) 0 c (Nat.zero_min _)
  obtain ⟨w2, hr2, hg2, g2⟩ := copied2 w1.drew 3 (some ⟨g, i * 2, none⟩) (some ⟨g, j * 2, none⟩) nj (cap - i) nj (cap - j) g (i * 2) cur Hg1.out (cellsL (L.drop j)) HC1.out (fun _ => ⟨rfl, _, rfl, HS1.out w1.drew g1d⟩) HF1.out (cellsL_one _)
  have g2w : w.grownBy w2 (some g) := gbTrans (gbAny g1d _) g2
  obtain ⟨w3, hr3, hg3, g3⟩ := clear1_run w2 0 g (tot * 2) (cap - tot) _ hg2 HF2.out
  have HL3 := hideIt (HE.out w3 hg3.out)
  clear hg2 hg3
  go_upto_region 18 with fail
  go_region
  go_wp2
  go_ret
  exact ⟨_, rfl, HL3.out, gbTrans g2w g3, rfl⟩

set_option maxRecDepth 10000 in
set_option maxHeartbeats 1000000 in
theorem replace_one (w : World) (B g h n cap i j c : Nat) (L K : List (Int × Int)) (hn : Hid (L.length = n)) (hn2 : n ≤ 1000) (HL : Hid (Lst w B (.slice (some ⟨g, 0, none⟩) n cap) L)) (hj : i + 1 = j) (hjn : j < n) (hm : Hid (K.length = 1)) (HK : Hid (Lst w 0 (.slice (some ⟨h, 0, none⟩) 1 c) K)) (hgh : g ≠ h) (nj : Nat) (hnj0 : n - j = nj) :
    Calls Try.prog 77 #[.slice (some ⟨g, 0, none⟩) n cap, .int .i64 i, .int .i64 j, .slice (some ⟨h, 0, none⟩) 1 c] w fun e w' => ∃ v', e = .returned v' ∧ Lst w' B v' (L.take i ++ (K ++ L.drop j)) ∧ w.grownBy w' (some g) ∧ v'.ownBlock = some g := by
  obtain ⟨cur, hg, hc, hcm, ht, hB, hncap⟩ := HL.out.open hn.out
  obtain ⟨cur', hh, hc', hcm', ht', _, hmc⟩ := HK.out.open hm.out
  have Hg := hideIt hg
  have lK : (cellsL K).length = 2 := by rw [cellsL_len, hm.out]
  have lZ : (cellsL (L.drop j)).length = nj * 2 := by rw [cellsL_len, List.length_drop, hn.out, hnj0]
  have HC1 : Hid ((cellsL (L.drop j)).length = Nat.min nj nj * 2) := hideIt (by rw [lZ]; simp)
  have HC2 : Hid ((cellsL K).length = Nat.min 1 (n - i) * 2) := hideIt (by rw [lK]; show _ = min 1 (n - i) * 2; omega)
  have HF2 : Hid (i * 2 + (cellsL K).length ≤ cur.length) := hideIt (by rw [lK]; omega)
  have HF1 : Hid (j * 2 + (cellsL (L.drop j)).length ≤ (splice cur (i * 2) (cellsL K)).length) := hideIt (by rw [length_splice _ _ _ HF2.out, lZ]; omega)
  have HS1 : Hid (∀ w1 : World, w1.heap[g]? = some (.cells (splice cur (i * 2) (cellsL K)).toArray 24 (0, 0)) → ∀ q v, (cellsL (L.drop j))[q]? = some v → w1.cell? ((⟨g, j * 2, none⟩ : Addr).add q) = some v) := hideIt (fun w1 hg1 q v hv => by
    rw [Addr.add_lit, blkCell hg1]
    have e := drop_splice cur (i * 2) (cellsL K) HF2.out
    rw [lK, show i * 2 + 2 = j * 2 by omega] at e
    rw [← List.getElem?_drop, e, List.getElem?_drop]
    rw [cellsL_drop, ← ht, List.getElem?_drop, List.getElem?_take] at hv
    split at hv
    · exact hv
    · cases hv)
  have HS2 : Hid (∀ w1, w.grownBy w1 none → ∀ q v, (cellsL K)[q]? = some v → w1.cell? ((⟨h, 0, none⟩ : Addr).add q) = some v) := hideIt (fun w1 g1 q v hv => by
    rw [Addr.add_lit]
    refine g1.cell ?_ (by simp)
    rw [blkCell hh]
    rw [← ht', List.getElem?_take] at hv
    split at hv
    · rw [Nat.zero_add]; exact hv
    · cases hv)
  have HE : Hid (∀ w', w'.heap[g]? = some (.cells (splice (splice cur (i * 2) (cellsL K)) (j * 2) (cellsL (L.drop j))).toArray 24 (0, 0)) → Lst w' B (.slice (some ⟨g, 0, none⟩) n cap) (L.take i ++ (K ++ L.drop j))) := hideIt (fun w' hg' => by
    have l1 : (splice cur (i * 2) (cellsL K)).length = cur.length := length_splice _ _ _ HF2.out
    refine Lst.of hB hg' (by rw [length_splice _ _ _ HF1.out, l1]; exact hc) hcm hncap (by rw [List.length_append, List.length_append, List.length_take, List.length_drop, hn.out, hm.out]; omega) ?_
    have := splice_a cur (cellsL K) (cellsL (L.drop j)) (i * 2) (by rw [lK, lZ]; omega)
    rw [lK, lZ, show i * 2 + 2 = j * 2 by omega, show j * 2 + nj * 2 = n * 2 by omega] at this
    rw [this, ← cellsL_app, ← cellsL_app, cellsL_take, ← ht, List.take_take, Nat.min_eq_left (by omega)])
  have hc0 := clear0_run
  have hic : (i : Int) ≤ (cap : Int) := by omega
  have hij : ¬ (i : Int) = (j : Int) := by omega
  have hij' : (i : Int) ≤ (j : Int) := by omega
  have hjc : (j : Int) ≤ (cap : Int) := by omega
  have hjn1 : ¬ (j : Int) = (n : Int) := by omega
  have hjn2 : (j : Int) ≤ (n : Int) := by omega
  have him' : (i : Int) + 1 = (j : Int) := by omega
  have htot' : (j : Int) + (nj : Int) = (n : Int) := by omega
  have hroom' : ¬ (cap : Int) < (n : Int) := by omega
  have hroom2 : (n : Int) ≤ (cap : Int) := by omega
  have hit : (i : Int) ≤ (n : Int) := by omega
  have hw : IntKind.i64.wrap (j : Int) = (j : Int) := by rw [IntKind.wrap_i64]; omega
  have hcj : ¬ cap = j := by omega
  have hci : ¬ cap = i := by omega
  clear hg hh hc' hcm' ht' hc hcm ht lK lZ
  go_enter Try.func77, Try.ntmps77
  go_upto_region 9 with fail
  refine wp_region_grown (by kernel_rfl) (by kernel_rfl) fun _ => ?_
  repeat (go_big_quiet_step (fail))
  refine wpQuiet_nil ?_
  rintro w1 ⟨⟨_, g1⟩, rfl⟩
  have Hg1 : Hid (w1.heap[g]? = some (.cells cur.toArray 24 (0, 0))) := hideIt ((g1.block g (Array.getElem?_eq_some_iff.1 Hg.out).1 (by simp)).trans Hg.out)
  obtain ⟨w2, hr2, hg2, g2⟩ := copied2 w1 3 (some ⟨g, i * 2, none⟩) (some ⟨h, 0, none⟩) (n - i) (cap - i) 1 c g (i * 2) cur Hg1.out (cellsL K) HC2.out (fun _ => ⟨rfl, _, rfl, HS2.out w1 g1⟩) HF2.out (cellsL_one _)
  have hg2d : w2.drew.heap[g]? = _ := hg2
  obtain ⟨w3, hr3, hg3, g3⟩ := copied2 w2.drew 3 (some ⟨g, j * 2, none⟩) (some ⟨g, j * 2, none⟩) nj (cap - j) nj (cap - j) g (j * 2) _ hg2d (cellsL (L.drop j)) HC1.out (fun _ => ⟨rfl, _, rfl, HS1.out w2.drew hg2d⟩) HF1.out (cellsL_one _)
  have HL3 := hideIt (HE.out w3 hg3)
  have gw3 : w.grownBy w3 (some g) := gbTrans (gbTrans (gbAny g1 _) g2) (gbTrans (gbDrewN w2 1 _) g3)
  clear hg2 hg2d hg3
  go_upto_region 18 with fail
  go_region
  go_wp2
  · go_ret
    subst_vars
    exact ⟨_, rfl, HL3.out, gw3, rfl⟩
  · go_ret
    exact ⟨_, rfl, HL3.out, gw3, rfl⟩

theorem replace_is {w : World} {v vb : Value} {L K : List (Int × Int)} (h : Lst w 0 v L) (hk : Lst w 0 vb K) (hne : ∀ g, v.ownBlock = some g → vb.ownBlock ≠ some g) (i : Nat) (hi : i < L.length) (hl : L.length ≤ 1000) (hl2 : K.length ≤ 1000) (j : Nat) (hj : i + 1 = j) :
    Calls Try.prog 77 #[v, .int .i64 i, .int .i64 j, vb] w fun e w' => ∃ v', e = .returned v' ∧ Lst w' 0 v' (L.take i ++ (K ++ L.drop j)) ∧ w.grownBy w' v.ownBlock ∧ (v'.ownBlock = v.ownBlock ∨ ∀ g, v'.ownBlock = some g → w.heap.size ≤ g) := by
  obtain ⟨g, cap, rfl⟩ := h.shape rfl (by omega)
  have hcap : L.length ≤ cap := by
    rcases h.form with ⟨e, _⟩ | ⟨_, _, e, hc, _⟩
    · cases e
    · simp at e; omega
  -- what comes in
  have hin : ∃ ox c, vb = .slice ox K.length c ∧ (ox = none → K.length = 0) ∧ (∀ ad, ox = some ad → Row w ad K) ∧ (0 < K.length → ∃ b, ox = some ⟨b, 0, none⟩ ∧ g ≠ b) := by
    rcases hk.form with ⟨rfl, rfl⟩ | ⟨b, c, rfl, _, _, _, _, hr⟩
    · exact ⟨none, 0, rfl, fun _ => rfl, fun ad e => (nomatch e), fun e => by simp at e⟩
    · refine ⟨some ⟨b, 0, none⟩, c, rfl, fun e => (nomatch e), fun ad e => by cases e; exact hr, fun _ => ⟨b, rfl, fun e => hne g rfl (by rw [e]; rfl)⟩⟩
  obtain ⟨ox, c, rfl, hno, hrow, hb⟩ := hin
  by_cases e1 : j = L.length
  · have hd : L.drop j = [] := List.drop_eq_nil_of_le (by omega)
    rw [hd, List.append_nil]
    subst e1
    by_cases hm : K.length = 0
    · have hK : K = [] := List.eq_nil_of_length_eq_zero hm
      subst hK
      rw [List.append_nil]
      refine (replace_end0 w 0 g _ cap i c ox L (hideIt rfl) hl (hideIt h) hj hcap).mono ?_
      rintro _ w1 ⟨v', rfl, l1, g1, o1⟩
      exact ⟨v', rfl, l1, g1, .inl o1⟩
    · refine (replace_end w 0 g _ cap i _ c ox L K (hideIt rfl) hl (hideIt h) hj (hideIt (Nat.zero_le _)) (hideIt rfl) (by omega) hl2 (hideIt hno) (hideIt hrow) hcap).mono ?_
      rintro _ w1 ⟨v', rfl, l1, g1, o1⟩
      refine ⟨v', rfl, l1, g1, ?_⟩
      rcases o1 with o1 | o1
      · exact .inl o1
      · exact .inr (fun g' e => by rw [o1] at e; cases e; exact Nat.le_refl _)
  · have hjn : j < L.length := by omega
    by_cases hm : K.length = 0
    · have hK : K = [] := List.eq_nil_of_length_eq_zero hm
      subst hK
      rw [List.nil_append]
      refine (replace_none w 0 g _ cap i j c _ ox L (hideIt rfl) hl (hideIt h) hj hjn _ rfl rfl).mono ?_
      rintro _ w1 ⟨v', rfl, l1, g1, o1⟩
      exact ⟨v', rfl, l1, g1, .inl o1⟩
    · obtain ⟨b, rfl, hgb⟩ := hb (by omega)
      by_cases hm1 : K.length = 1
      · rw [hm1] at hk ⊢
        refine (replace_one w 0 g b _ cap i j c L K (hideIt rfl) hl (hideIt h) hj hjn (hideIt hm1) (hideIt hk) hgb _ rfl).mono ?_
        rintro _ w1 ⟨v', rfl, l1, g1, o1⟩
        exact ⟨v', rfl, l1, g1, .inl o1⟩
      · by_cases hroom : i + K.length + (L.length - j) ≤ cap
        · refine (replace_wide w 0 g b _ cap i j _ c _ _ L K (hideIt rfl) hl (hideIt h) hj hjn (hideIt rfl) (by omega) hl2 (hideIt hk) hgb rfl _ rfl rfl hroom).mono ?_
          rintro _ w1 ⟨v', rfl, l1, g1, o1⟩
          exact ⟨v', rfl, l1, g1, .inl o1⟩
        · refine (replace_grow w 0 g b _ cap i j _ c _ _ L K (hideIt rfl) hl (hideIt h) hj hjn (hideIt (Nat.zero_le _)) (hideIt rfl) (by omega) hl2 (hideIt hk) rfl _ rfl rfl (by omega)).mono ?_
          rintro _ w1 ⟨v', G, rfl, l1, g1, o1, hG⟩
          exact ⟨v', rfl, l1, gbAny g1 _, .inr (fun g' e => by rw [o1] at e; cases e; exact hG)⟩

end T9
end Go.Proofs.Ytpfjcfgbecoccaa

/-
  THE CONTRACTS of package tree: Root, Child.
-/
namespace Go.Proofs.Ytpfjcfgbecoccaa
set_option maxRecDepth 10000
namespace T9
open Go.RowKit
set_option linter.unusedVariables false

abbrev gHas (w : World) (p : Nat) (n i : Int) (v : Bool) : Prop := ∀ W, w.grownBy W none → Calls Try.prog 52 #[.pointer (some ⟨p, 0, none⟩), sv n i] W fun e w' => e = .returned (.bool v) ∧ W.grownBy w' none

set_option maxHeartbeats 400000 in
theorem root_twice (w : World) (p : Nat) (n i : Int) (HH : gHas w p n i true) :
    Calls Try.prog 40 #[.pointer (some ⟨p, 0, none⟩), sv n i] w fun e w' => e = .returned (.int .i64 4) ∧ w.grownBy w' none := by
  go_enter Try.func40, Try.ntmps40
  go_upto_region 1 with fail
  obtain ⟨W, hW, X, g0⟩ := sboxNew w n i
  rw [hW]
  clear hW
  have x0 := X.at0
  have x1 := X.at1
  go_wp2_with fail
  refine (HH _ g0).mono ?_
  rintro _ w1 ⟨rfl, g1⟩
  go_wp2
  go_ret
  exact ⟨rfl, gbTrans g0 g1⟩

set_option maxHeartbeats 400000 in
theorem root_new {w : World} {p b m : Nat} {K : Int × Int → Option Nat} {V : Int × Int → Value} {P : Vw} (h : Hid (TA w p b m K V P)) (n i : Int) (hn : I64 n) (hi : I64 i) (hm : m ≤ 1000) (hk : Hid (K (n, i) = none)) (hp : Hid (P (n, i) = none)) (HH : gHas w p n i false) :
    Calls Try.prog 40 #[.pointer (some ⟨p, 0, none⟩), sv n i] w fun e w' => e = .returned (.int .i64 0) ∧ ∃ q, w.heap.size ≤ q ∧ q < w'.heap.size ∧
      TA w' p b (m + 1) (fun j => if j = (n, i) then some q else K j) (fun t => if t = (n, i) then .slice none 0 0 else V t) (fun t => if t = (n, i) then some (none, []) else P t) ∧ Fr (fun i => i = b) w w' := by
  go_enter Try.func40, Try.ntmps40
  go_upto_region 1 with fail
  obtain ⟨W, hW, X, g0⟩ := sboxNew w n i
  rw [hW]
  clear hW
  have x0 := X.at0
  have x1 := X.at1
  go_wp2_with fail
  refine (HH _ g0).mono ?_
  rintro _ w1 ⟨rfl, g1⟩
  have y0 := (X.kept g1).at0
  have y1 := (X.kept g1).at1
  have gg := gbTrans g0 g1
  have c0 := gg.cell h.out.cell (by simp)
  have gm : w.grownBy (w1.alloc (.cells #[.int .i64 0, .int .i64 0, .bool false, .slice none 0 0] 107)).drew none := gbDrew (gbAllocN gg _)
  have hx1 : w.heap.size < w1.heap.size := (X.kept g1).lt
  have hp1 : p < w1.heap.size := Nat.lt_of_lt_of_le h.out.plt gg.size
  have hx2 : ¬ w1.heap.size = w.heap.size := by omega
  have hx3 : ¬ w.heap.size = w1.heap.size := by omega
  have hp2 : ¬ w1.heap.size = p := by omega
  have hp3 : ¬ p = w1.heap.size := by omega
  obtain ⟨w2, hr2, k2, g2⟩ := (h.out.kept gm).map.put n i w1.heap.size hn hi hm hk.out
  obtain ⟨A, F⟩ := h.out.put hp.out (o := none) gm (MemAt.new w1 none _) gg.size g2 k2
  have HA := hideIt A
  have HF := hideIt F
  have hsz : w1.heap.size < w2.heap.size := Nat.lt_of_lt_of_le (by simp) g2.size
  clear x0 x1 A F k2
  go_wp2
  go_region
  go_wp2
  go_ret
  exact ⟨rfl, w1.heap.size, gg.size, hsz, HA.out, HF.out⟩

theorem gHas.of {w : World} {p : Nat} {O : Nat → Prop} {f : Fo} (h : TAt w p O f) (n i : Int) (hn : I64 n) (hi : I64 i) (v : Bool) (hv : f.has (n, i) = v) : gHas w p n i v := fun W g => has_is (h.kept g) n i hn hi v hv

theorem Fo.view_root {f : Fo} {s : Int × Int} (hs : f.has s = false) (x : Int × Int) : (Fo.app f (Fo.one s)).view none x = if x = s then some (none, []) else f.view none x := by
  rw [Fo.view_app, Fo.view_one]
  by_cases e : x = s
  · subst e; rw [(Fo.hasnt hs).1, if_pos rfl]; simp
  · rw [if_neg e, if_neg (Ne.symm e), Option.or_none]

theorem Good.root {f : Fo} (G : Good f) {s : Int × Int} (h1 : I64 s.1) (h2 : I64 s.2) : Good (f.rootF s) := by
  unfold Fo.rootF
  cases hs : f.has s with
  | true => exact G
  | false =>
    have hn := Fo.has_not.1 hs
    simp only [Bool.false_eq_true, if_false]
    refine ⟨?_, fun x hx => ?_⟩
    · rw [Fo.pre_app, Fo.pre_one]
      exact List.nodup_append.2 ⟨G.nd, by simp, fun x hx y hy e => hn (by simp at hy; rw [← hy, ← e]; exact hx)⟩
    · rw [Fo.pre_app, Fo.pre_one] at hx
      simp at hx
      rcases hx with hx | rfl
      · exact G.num x hx
      · exact ⟨h1, h2⟩

theorem root_is {w : World} {p : Nat} {O : Nat → Prop} {f : Fo} (h : TAt w p O f) (n i e : Int) (hn : I64 n) (hi : I64 i) (hm : f.len ≤ 1000) (he : f.rootE (n, i) = e) :
    Calls Try.prog 40 #[.pointer (some ⟨p, 0, none⟩), sv n i] w fun x w' => x = .returned (.int .i64 e) ∧ TAt w' p (wide O w w') (f.rootF (n, i)) ∧ Fr O w w' := by
  unfold Fo.rootE at he
  unfold Fo.rootF
  cases hs : f.has (n, i) with
  | true =>
    rw [hs] at he
    simp only [if_true] at he ⊢
    subst he
    refine (root_twice w p n i (gHas.of h n i hn hi true hs)).mono ?_
    rintro _ w1 ⟨rfl, g1⟩
    exact ⟨rfl, (h.kept g1).mono (fun i e => .inl e), Fr.grown g1⟩
  | false =>
    rw [hs] at he
    simp only [Bool.false_eq_true, if_false] at he ⊢
    subst he
    have HH := gHas.of h n i hn hi false hs
    obtain ⟨b, K, V, h, hp, hb, hq, hg⟩ := h
    refine (root_new (hideIt h) n i hn hi hm (hideIt (h.gone _ (Fo.hasnt hs).1)) (hideIt (Fo.hasnt hs).1) HH).mono ?_
    rintro _ w1 ⟨rfl, q, h1, h2, A, F⟩
    refine ⟨rfl, ⟨b, _, _, A.congr (fun x => (Fo.view_root hs x).symm) (by rw [Fo.pre_app, Fo.pre_one]; simp), .inl hp, .inl hb, fun s q' hs' => ?_, fun s q' g hs' hg' => ?_⟩, F.mono (fun i _ e => e ▸ hb)⟩
    · by_cases e : s = (n, i)
      · simp only [if_pos e] at hs'; cases hs'; exact .inr ⟨h1, h2⟩
      · simp only [if_neg e] at hs'; exact .inl (hq s q' hs')
    · by_cases e : s = (n, i)
      · simp only [if_pos e] at hg'; cases hg'
      · simp only [if_neg e] at hs' hg'; exact .inl (hg s q' g hs' hg')

/-- append inside a region that draws its order, its run known. -/
theorem step_append_run {ops : Array Oper} {o : Oper} {a : Act} {w : World} {K : Act → World → Prop} {Q : Exit → Act → World → Prop} {E : Prop} (hgd : o.guard = none) (s x : Operand)
    (ho : o.op = .call { callee := .builtin .append, args := #[s, x], argTypes := #[29, 29] }) (vs vx : Value) (hs : a.eval s = vs) (hx : a.eval x = vx)
    (v' : Value) (w' : World) (hr : (Builtin.append_ #[29, 29] o.type #[vs, vx]).run Try.prog w = .ok v' w') (h : K (a.put o.dst v') w') :
    if Region.wanted o (yielded ops a.tmps) = true then Oper.wp Try.prog o a w K Q else E := by
  have hw : Region.wanted o (yielded ops a.tmps) = true := by simp [Region.wanted, hgd]
  rw [if_pos hw]
  unfold Oper.wp execOp
  simp only [ho, resolve, invoke, builtin, Sem.run_bind, Sem.run_pure, Result.andThen_ok, List.map_toArray, List.map_cons, List.map_nil, hs, hx, hr]
  exact h

/-! ### Child -/
theorem twoS (w : World) (n i a c : Int) : ∃ W, (w.alloc (.cells #[.int .i64 n, .int .i64 i] 24)).alloc (.cells #[.int .i64 a, .int .i64 c] 24) = W ∧ SBox W w.heap.size n i ∧ SBox W (w.heap.size + 1) a c ∧ w.grownBy W none := by
  obtain ⟨W, h1, h2, h3, _, h4⟩ := twoNew w n i a c
  exact ⟨W, h1, h2, h3, h4⟩

set_option maxHeartbeats 400000 in
theorem child_none {w : World} {p b m : Nat} {K : Int × Int → Option Nat} {V : Int × Int → Value} {P : Vw} (h : Hid (TA w p b m K V P)) (n i a c : Int) (hn : I64 n) (hi : I64 i) (hk : Hid (K (n, i) = none)) :
    Calls Try.prog 58 #[.pointer (some ⟨p, 0, none⟩), sv n i, sv a c] w fun e w' => e = .returned (.int .i64 3) ∧ w.grownBy w' none := by
  go_enter Try.func58, Try.ntmps58
  go_upto_region 1 with fail
  obtain ⟨W, hW, X, Y, g0⟩ := twoS w n i a c
  rw [hW]
  clear hW
  obtain ⟨c0, x0, x1, hl⟩ := Reads.mk' (h.out.kept g0) hn hi X hk.out
  refine wp_region_grown (by kernel_rfl) (by kernel_rfl) fun _ => ?_
  repeat (go_big_quiet_step (fail))
  refine wpQuiet_nil ?_
  rintro w1 ⟨⟨_, g1⟩, rfl⟩
  go_wp2
  go_ret
  exact ⟨rfl, gbTrans g0 g1⟩
set_option maxHeartbeats 400000 in
theorem child_twice {w : World} {p b m q : Nat} {K : Int × Int → Option Nat} {V : Int × Int → Value} {P : Vw} (h : Hid (TA w p b m K V P)) (n i a c : Int) (hn : I64 n) (hi : I64 i) (hk : Hid (K (n, i) = some q)) (HH : gHas w p a c true) :
    Calls Try.prog 58 #[.pointer (some ⟨p, 0, none⟩), sv n i, sv a c] w fun e w' => e = .returned (.int .i64 4) ∧ w.grownBy w' none := by
  go_enter Try.func58, Try.ntmps58
  go_upto_region 1 with fail
  obtain ⟨W, hW, X, Y, g0⟩ := twoS w n i a c
  rw [hW]
  clear hW
  obtain ⟨c0, x0, x1, hl⟩ := Reads.mk' (h.out.kept g0) hn hi X hk.out
  refine wp_region_grown (by kernel_rfl) (by kernel_rfl) fun _ => ?_
  repeat (go_big_quiet_step (fail))
  refine wpQuiet_nil ?_
  rintro w1 ⟨⟨_, g1⟩, rfl⟩
  clear c0 x0 x1 hl
  have y0 := (Y.kept g1).at0
  have y1 := (Y.kept g1).at1
  go_wp2_with fail
  refine (HH _ (gbTrans g0 g1)).mono ?_
  rintro _ w2 ⟨rfl, g2⟩
  go_wp2
  go_ret
  exact ⟨rfl, gbTrans (gbTrans g0 g1) g2⟩

set_option maxHeartbeats 1000000 in
theorem child_new {w : World} {p b m q : Nat} {K : Int × Int → Option Nat} {V : Int × Int → Value} {P : Vw} (h : Hid (TA w p b m K V P)) (n i a c : Int) (hn : I64 n) (hi : I64 i) (ha : I64 a) (hc : I64 c) (hm : m ≤ 1000) (hk : Hid (K (n, i) = some q)) (o : Option (Int × Int)) (l : List (Int × Int)) (hp : Hid (P (n, i) = some (o, l))) (hl : Hid (l.length ≤ 1000))
    (hk2 : Hid (K (a, c) = none)) (hp2 : Hid (P (a, c) = none)) (HH : gHas w p a c false) :
    Calls Try.prog 58 #[.pointer (some ⟨p, 0, none⟩), sv n i, sv a c] w fun e w' => e = .returned (.int .i64 0) ∧ ∃ q' v', w.heap.size ≤ q' ∧ q' < w'.heap.size ∧ (v'.ownBlock = (V (n, i)).ownBlock ∨ ∀ g, v'.ownBlock = some g → w.heap.size ≤ g ∧ g < w'.heap.size) ∧
      TA w' p b (m + 1) (fun j => if j = (a, c) then some q' else K j) (fun t => if t = (n, i) then v' else if t = (a, c) then .slice none 0 0 else V t) (fun t => if t = (n, i) then some (o, l ++ [(a, c)]) else if t = (a, c) then some (some (n, i), []) else P t) ∧ Fr (fun i' => i' = b ∨ i' = q ∨ (V (n, i)).ownBlock = some i') w w' := by
  obtain ⟨y, hy, hmem, hlst⟩ := h.out.has hk.out
  rw [hp.out] at hy; cases hy
  obtain ⟨v, hv⟩ : ∃ v, V (n, i) = v := ⟨_, rfl⟩
  rw [hv] at hmem hlst
  have HV := hideIt hv
  have HM := hideIt hmem
  have HLs := hideIt hlst
  have hne : Hid ((n, i) ≠ (a, c)) := hideIt (fun e => by have h1 := hk.out; rw [e, hk2.out] at h1; cases h1)
  clear hmem hlst hv
  go_enter Try.func58, Try.ntmps58
  go_upto_region 1 with fail
  obtain ⟨W, hW, X, Y, g0⟩ := twoS w n i a c
  rw [hW]
  clear hW
  obtain ⟨c0, x0, x1, hlk⟩ := Reads.mk' (h.out.kept g0) hn hi X hk.out
  refine wp_region_grown (by kernel_rfl) (by kernel_rfl) fun _ => ?_
  repeat (go_big_quiet_step (fail))
  refine wpQuiet_nil ?_
  rintro w1 ⟨⟨_, g1⟩, rfl⟩
  clear c0 x0 x1 hlk
  have y0 := (Y.kept g1).at0
  have y1 := (Y.kept g1).at1
  go_wp2_with fail
  refine (HH _ (gbTrans g0 g1)).mono ?_
  rintro _ w2 ⟨rfl, g2⟩
  clear y0 y1
  have X2 := (X.kept g1).kept g2
  have Y2 := (Y.kept g1).kept g2
  have gg := gbTrans (gbTrans g0 g1) g2
  have y0 := Y2.at0
  have y1 := Y2.at1
  have x0 := X2.at0
  have x1 := X2.at1
  have c0 := gg.cell h.out.cell (by simp)
  have gm : w.grownBy (w2.alloc (.cells #[.int .i64 n, .int .i64 i, .bool true, .slice none 0 0] 107)).drew none := gbDrew (gbAllocN gg _)
  have hx1 : w.heap.size + 1 < w2.heap.size := Y2.lt
  have hp1 : p < w2.heap.size := Nat.lt_of_lt_of_le h.out.plt gg.size
  have hx2 : ¬ w2.heap.size = w.heap.size := by omega
  have hx3 : ¬ w.heap.size = w2.heap.size := by omega
  have hx4 : ¬ w2.heap.size = w.heap.size + 1 := by omega
  have hx5 : ¬ w.heap.size + 1 = w2.heap.size := by omega
  have hp2' : ¬ w2.heap.size = p := by omega
  have hp3 : ¬ p = w2.heap.size := by omega
  obtain ⟨w3, hr3, k3, g3⟩ := (h.out.kept gm).map.put a c w2.heap.size ha hc hm hk2.out
  obtain ⟨A, F⟩ := h.out.put hp2.out (o := some (n, i)) gm (MemAt.new w2 (some (n, i)) _) gg.size g3 k3
  have HA := hideIt A
  have HF := hideIt F
  have hsz : w2.heap.size < w3.heap.size := Nat.lt_of_lt_of_le (by simp) g3.size
  clear A F k3
  go_wp2
  go_region
  clear y0 y1 x0 x1 c0 hr3
  have hbl := h.out.map.lt
  have g3y : some (w.heap.size + 1) ≠ some b := by simp; omega
  have gmm : w2.grownBy (w2.alloc (.cells #[.int .i64 n, .int .i64 i, .bool true, .slice none 0 0] 107)).drew none := gbDrew (gbAllocN (gbRefl _ _) _)
  have y0 := g3.cell (gmm.cell Y2.at0 (by simp)) g3y
  have y1 := g3.cell (gmm.cell Y2.at1 (by simp)) g3y
  have hq3 : (fun j => if j = (a, c) then some w2.heap.size else K j) (n, i) = some q := by simp only [if_neg hne.out]; exact hk.out
  have hp3' : (fun t => if t = (a, c) then some (some (n, i), ([] : List (Int × Int))) else P t) (n, i) = some (o, l) := by simp only [if_neg hne.out]; exact hp.out
  obtain ⟨yy, hyy, hmm, hll⟩ := HA.out.has hq3
  simp only [if_neg hne.out, HV.out, hp.out] at hyy hmm hll
  cases hyy
  have hyl : w.heap.size + 1 < w3.heap.size := by omega
  have hql : q < w3.heap.size := hmm.lt
  have g5 : w3.grownBy (w3.alloc (.cells #[.int .i64 a, .int .i64 c] 24)).drew none := gbDrew (gbAllocN (gbRefl _ _) _)
  obtain ⟨v4, w4, hr4, l4, g4, o4⟩ := run_append_slots (w3.alloc (.cells #[.int .i64 a, .int .i64 c] 24)).drew 0 v l (hll.kept g5) 29 (some ⟨w3.heap.size, 0, none⟩) 1 1 [(a, c)] rfl (by simp) (by rintro ad ⟨⟩; exact (rowOne w3 a c).kept (gbDrewN _ 1 none)) (by have := hl.out; omega) (Nat.zero_le _)
  obtain ⟨kk, hkk⟩ : ∃ kk, (l ++ [(a, c)]).length = kk := ⟨_, rfl⟩
  obtain ⟨g', cap', rfl⟩ := l4.shape hkk (by rw [← hkk]; simp)
  have gv4 : w3.grownBy w4 v.ownBlock := gbTrans (gbAny g5 _) g4
  have hqv : ∀ g, v.ownBlock = some g → g ≠ q := fun g hg => HA.out.gq hq3 (by simp only [if_neg hne.out, HV.out]; exact hg) hq3
  have m4 : MemAt w4 q o v := by
    have F1 : Fr (fun i => v.ownBlock = some i) w3 w4 := by
      cases e : v.ownBlock with
      | none => rw [e] at gv4; exact Fr.grown gv4
      | some g => rw [e] at gv4; exact Fr.at gv4 rfl
    exact hmm.fr F1 (fun e => hqv q e rfl)
  have q3 := hmm.c3
  have q4 := m4.c3
  have f4 := m4.fz
  have hA2 := TA.setCh HA.out (s := (n, i)) (w1 := w4) (v' := .slice (some ⟨g', 0, none⟩) kk cap') (l' := l ++ [(a, c)]) hq3 hp3' (by simp only [if_neg hne.out, HV.out]; exact gv4) l4 (by
    simp only [if_neg hne.out, HV.out]
    rcases o4 with o4 | o4
    · exact .inl o4
    · exact .inr (fun g e => by rw [o4] at e; cases e; simp))
  have hz4 : w3.heap.size ≤ w4.heap.size := gv4.size
  have hzs : (w4.setCell ⟨q, 3, none⟩ (.slice (some ⟨g', 0, none⟩) kk cap')).heap.size = w4.heap.size := by simp [World.setCell]
  have hgl := (l4.lt g' rfl).2
  have HFIN : Hid (∃ q' v', w.heap.size ≤ q' ∧ q' < (w4.setCell ⟨q, 3, none⟩ (.slice (some ⟨g', 0, none⟩) kk cap')).heap.size ∧ (v'.ownBlock = (V (n, i)).ownBlock ∨ ∀ g, v'.ownBlock = some g → w.heap.size ≤ g ∧ g < (w4.setCell ⟨q, 3, none⟩ (.slice (some ⟨g', 0, none⟩) kk cap')).heap.size) ∧
      TA (w4.setCell ⟨q, 3, none⟩ (.slice (some ⟨g', 0, none⟩) kk cap')) p b (m + 1) (fun j => if j = (a, c) then some q' else K j) (fun t => if t = (n, i) then v' else if t = (a, c) then .slice none 0 0 else V t) (fun t => if t = (n, i) then some (o, l ++ [(a, c)]) else if t = (a, c) then some (some (n, i), []) else P t) ∧ Fr (fun i' => i' = b ∨ i' = q ∨ (V (n, i)).ownBlock = some i') w (w4.setCell ⟨q, 3, none⟩ (.slice (some ⟨g', 0, none⟩) kk cap'))) := hideIt (by
    refine ⟨w2.heap.size, .slice (some ⟨g', 0, none⟩) kk cap', gg.size, by rw [hzs]; omega, ?_, hA2.1, ?_⟩
    · rcases o4 with o4 | o4
      · exact .inl (by rw [HV.out]; exact o4)
      · refine .inr (fun g e => ?_)
        cases e
        have h1 : g' = w3.heap.size + 1 := by simpa [Value.ownBlock] using o4
        have h2 := gg.size
        rw [hzs]
        show w.heap.size ≤ g' ∧ g' < w4.heap.size
        omega
    · have F2 := hA2.2
      simp only [if_neg hne.out] at F2
      exact (HF.out.mono (fun i' _ e => .inl e)).join F2 (fun i' _ e => .inr e))
  have hq5 : ¬ w3.heap.size = q := by omega
  have hq6 : ¬ q = w3.heap.size := by omega
  have hq7 : ¬ w3.heap.size = w.heap.size + 1 := by omega
  have hq8 : ¬ w.heap.size + 1 = w3.heap.size := by omega
  clear hA2 hmm hll l4 hkk o4 hgl
  go_wp2
  go_region_law (refine step_append_run rfl (.tmp 32) (.tmp 34) rfl v (.slice (some ⟨w3.heap.size, 0, none⟩) 1 1) rfl rfl (.slice (some ⟨g', 0, none⟩) kk cap') w4 hr4 ?_)
  all_goals (go_wp2; go_ret; exact ⟨rfl, HFIN.out⟩)

theorem Good.child {f : Fo} (G : Good f) {o s : Int × Int} (h1 : I64 s.1) (h2 : I64 s.2) : Good (f.childF o s) := by
  unfold Fo.childF
  cases ho : f.has o with
  | false => exact G
  | true =>
    cases hs : f.has s with
    | true => exact G
    | false =>
      have hn := Fo.has_not.1 hs
      have hi := Fo.has_iff.1 ho
      simp only [Bool.false_eq_true, if_false, if_true]
      refine ⟨Fo.nodup_add G.nd hi hn, fun x hx => ?_⟩
      rcases (Fo.mem_add hi).1 hx with rfl | hx
      · exact ⟨h1, h2⟩
      · exact G.num x hx

theorem len_children {f : Fo} (s : Int × Int) : (f.children s).length ≤ f.len := by
  unfold Fo.children Fo.len
  cases hs : f.sub s with
  | none => simp
  | some d =>
    have h1 : ∀ g : Fo, g.tops.length ≤ g.pre.length := fun g => by
      induction g using Fo.ind with
      | nil => simp [Fo.tops]
      | node bb oo a d r _ ih => simp only [Fo.tops, Fo.pre, List.length_cons, List.length_append]; omega
    have h2 : ∀ (g e : Fo), g.sub s = some e → e.pre.length ≤ g.pre.length := fun g => by
      induction g using Fo.ind with
      | nil => intro e h; cases h
      | node bb oo a d r ihd ihr =>
        intro e h
        simp only [Fo.sub] at h
        simp only [Fo.pre, List.length_cons, List.length_append]
        split at h
        · cases h; omega
        · cases hd : d.sub s with
          | some x => rw [hd] at h; simp at h; subst h; have := ihd _ hd; omega
          | none => rw [hd] at h; simp at h; have := ihr _ h; omega
    exact Nat.le_trans (h1 d) (h2 f d hs)

theorem child_is {w : World} {p : Nat} {O : Nat → Prop} {f : Fo} (h : TAt w p O f) (G : Good f) (n i a c e : Int) (hn : I64 n) (hi : I64 i) (ha : I64 a) (hc : I64 c) (hm : f.len ≤ 1000) (he : f.childE (n, i) (a, c) = e) :
    Calls Try.prog 58 #[.pointer (some ⟨p, 0, none⟩), sv n i, sv a c] w fun x w' => x = .returned (.int .i64 e) ∧ TAt w' p (wide O w w') (f.childF (n, i) (a, c)) ∧ Fr O w w' := by
  unfold Fo.childE at he
  unfold Fo.childF
  cases hs : f.has (n, i) with
  | false =>
    rw [hs] at he
    simp only [Bool.false_eq_true, if_false] at he ⊢
    subst he
    obtain ⟨b, K, V, h, hr⟩ := id h
    refine (child_none (hideIt h) n i a c hn hi (hideIt (h.gone _ (Fo.hasnt hs).1))).mono ?_
    rintro _ w1 ⟨rfl, g1⟩
    exact ⟨rfl, (TAt.kept ⟨b, K, V, h, hr⟩ g1).mono (fun i e => .inl e), Fr.grown g1⟩
  | true =>
    rw [hs] at he
    simp only [if_true] at he ⊢
    cases hs2 : f.has (a, c) with
    | true =>
      rw [hs2] at he
      simp only [if_true] at he ⊢
      subst he
      have HH := gHas.of h a c ha hc true hs2
      obtain ⟨b, K, V, h, hr⟩ := id h
      obtain ⟨q, hq, _⟩ := h.mem _ _ (Fo.has_view hs)
      refine (child_twice (hideIt h) n i a c hn hi (hideIt hq) HH).mono ?_
      rintro _ w1 ⟨rfl, g1⟩
      exact ⟨rfl, (TAt.kept ⟨b, K, V, h, hr⟩ g1).mono (fun i e => .inl e), Fr.grown g1⟩
    | false =>
      rw [hs2] at he
      simp only [Bool.false_eq_true, if_false] at he ⊢
      subst he
      have HH := gHas.of h a c ha hc false hs2
      obtain ⟨b, K, V, h, hp, hb, hqs, hgs⟩ := h
      obtain ⟨q, hq, _⟩ := h.mem _ _ (Fo.has_view hs)
      refine (child_new (hideIt h) n i a c hn hi ha hc hm (hideIt hq) _ _ (hideIt (Fo.has_view hs)) (hideIt (Nat.le_trans (len_children _) hm)) (hideIt (h.gone _ (Fo.hasnt hs2).1)) (hideIt (Fo.hasnt hs2).1) HH).mono ?_
      rintro _ w1 ⟨rfl, q', v', h1, h2, h3, A, F⟩
      refine ⟨rfl, ⟨b, _, _, A.congr (fun x => ?_) (by rw [Fo.len_add G.nd (Fo.has_iff.1 hs)]), .inl hp, .inl hb, fun s r hs' => ?_, fun s r g hs' hg' => ?_⟩, F.mono (fun i' _ e => ?_)⟩
      · rw [Fo.view_add G.nd (Fo.has_iff.1 hs) (Fo.has_not.1 hs2)]
        by_cases e1 : x = (n, i)
        · have : (n, i) ≠ (a, c) := fun e => by rw [e, hs2] at hs; cases hs
          rw [e1, if_pos rfl, if_neg this, Fo.has_view hs]
          simp
        · rw [if_neg e1]
          by_cases e2 : x = (a, c)
          · rw [if_pos e2, if_pos e2]
          · rw [if_neg e2, if_neg e2]
            cases f.view none x <;> simp [e1]
      · by_cases e : s = (a, c)
        · simp only [if_pos e] at hs'; cases hs'; exact .inr ⟨h1, h2⟩
        · simp only [if_neg e] at hs'; exact .inl (hqs s r hs')
      · by_cases e1 : s = (n, i)
        · simp only [if_pos e1] at hg'
          rcases h3 with h3 | h3
          · exact .inl (hgs (n, i) q g hq (h3 ▸ hg'))
          · exact .inr (h3 g hg')
        · simp only [if_neg e1] at hg'
          by_cases e : s = (a, c)
          · simp only [if_pos e] at hg'; cases hg'
          · simp only [if_neg e] at hs' hg'; exact .inl (hgs s r g hs' hg')
      · rcases e with rfl | rfl | e
        · exact hb
        · exact hqs _ _ hq
        · exact hgs _ _ _ hq e

end T9
end Go.Proofs.Ytpfjcfgbecoccaa

/-
  THE CONTRACTS of package tree: adopt, replace.
-/
namespace Go.Proofs.Ytpfjcfgbecoccaa
set_option maxRecDepth 10000
namespace T9
open Go.RowKit
set_option linter.unusedVariables false

/-- Those of a list come of another one. -/
def M.adp (P : Vw) (l : List (Int × Int)) (o : Option (Int × Int)) : Vw := fun t => if t ∈ l then (P t).map (fun y => (o, y.2)) else P t
theorem M.adp_nil (P : Vw) (o : Option (Int × Int)) : M.adp P [] o = P := by funext t; simp [M.adp]
theorem M.adp_snoc (P : Vw) (l : List (Int × Int)) (c : Int × Int) (o o' : Option (Int × Int)) (ll : List (Int × Int)) (h : M.adp P l o c = some (o', ll)) : (fun t => if t = c then some (o, ll) else M.adp P l o t) = M.adp P (l ++ [c]) o := by
  funext t
  unfold M.adp at h ⊢
  by_cases e : t = c
  · subst e
    rw [if_pos rfl, if_pos (by simp)]
    by_cases hm : t ∈ l
    · rw [if_pos hm] at h
      cases hp : P t with
      | none => rw [hp] at h; cases h
      | some y => rw [hp] at h; simp at h; simp [h.2]
    · rw [if_neg hm] at h
      rw [h]; rfl
  · rw [if_neg e]
    by_cases hm : t ∈ l
    · rw [if_pos hm, if_pos (by simp [hm])]
    · rw [if_neg hm, if_neg (by simp [hm, e])]

/-- Three cells: what a slot comes of. -/
structure PBox (w : World) (x : Nat) (n i : Int) (f : Bool) : Prop where
  at0 : w.cell? ⟨x, 0, none⟩ = some (.int .i64 n)
  at1 : w.cell? ⟨x, 1, none⟩ = some (.int .i64 i)
  at2 : w.cell? ⟨x, 2, none⟩ = some (.bool f)
  lt : x < w.heap.size
theorem PBox.made (w : World) (n i : Int) (f : Bool) : PBox (w.alloc (.cells #[.int .i64 n, .int .i64 i, .bool f] 105)) w.heap.size n i f := ⟨by simp, by simp, by simp, by simp⟩
theorem PBox.fr {O : Nat → Prop} {w w' : World} {x : Nat} {n i : Int} {f : Bool} (X : PBox w x n i f) (h : Fr O w w') (ho : ¬ O x) : PBox w' x n i f := ⟨h.cell X.at0 ho, h.cell X.at1 ho, h.cell X.at2 ho, Nat.lt_of_lt_of_le X.lt h.size⟩
theorem PBox.kept {w w' : World} {x : Nat} {n i : Int} {f : Bool} (X : PBox w x n i f) (h : w.grownBy w' none) : PBox w' x n i f := X.fr (O := fun _ => False) (Fr.grown h) (fun e => e)
theorem pboxNew (w : World) (n i : Int) (f : Bool) : ∃ W, w.alloc (.cells #[.int .i64 n, .int .i64 i, .bool f] 105) = W ∧ PBox W w.heap.size n i f ∧ w.grownBy W none ∧ W.heap.size = w.heap.size + 1 := ⟨_, rfl, PBox.made w n i f, gbAlloc _ _ _, by simp⟩
theorem _root_.Go.Proofs.Ytpfjcfgbecoccaa.Row.fr {O : Nat → Prop} {w w' : World} {x : Addr} {L : List (Int × Int)} (h : Row w x L) (k : Fr O w w') (ho : ¬ O x.block) : Row w' x L :=
  fun i p hp => ⟨k.cell (h i p hp).at0 (by rw [add_block]; exact ho), k.cell (h i p hp).at1 (by simp only [add_block]; exact ho)⟩

/-- The members of a list's slots. -/
def M.own (L : List (Int × Int)) (K : Int × Int → Option Nat) (i : Nat) : Prop := ∃ c ∈ L, K c = some i
theorem sboxNew' (w : World) (n i : Int) : ∃ W, w.alloc (.cells #[.int .i64 n, .int .i64 i] 24) = W ∧ SBox W w.heap.size n i ∧ w.grownBy W none ∧ W.heap.size = w.heap.size + 1 := ⟨_, rfl, SBox.made w n i, gbAlloc _ _ _, by simp⟩

set_option maxHeartbeats 1000000 in
theorem adopt_row {w : World} {p b m g len cap : Nat} {K : Int × Int → Option Nat} {V : Int × Int → Value} {P : Vw} (h : Hid (TA w p b m K V P)) (L : List (Int × Int)) (hlen : Hid (L.length = len)) (hlen2 : len ≤ 1000) (HR : Hid (Row w ⟨g, 0, none⟩ L)) (on oa : Int) (ob : Bool) (o : Option (Int × Int)) (ho : Hid (oN o = on ∧ oA o = oa ∧ oB o = ob))
    (hin : Hid (∀ c ∈ L, I64 c.1 ∧ I64 c.2 ∧ P c ≠ none)) (hgq : Hid (∀ c q, K c = some q → g ≠ q)) :
    Calls Try.prog 69 #[.pointer (some ⟨p, 0, none⟩), .slice (some ⟨g, 0, none⟩) len cap, .agg #[.int .i64 on, .int .i64 oa, .bool ob]] w fun e w' => e = .returned (.tuple #[]) ∧ TA w' p b m K V (M.adp P L o) ∧ Fr (M.own L K) w w' := by
  go_enter Try.func69, Try.ntmps69
  go_upto_region 1 with fail
  obtain ⟨W, hW, X, g0, hs0⟩ := pboxNew w on oa ob
  rw [hW]
  clear hW
  go_wp2
  go_loopg [10] len (fun y i wr => ∃ j : Nat, j + y = len ∧ i = .int .i64 j ∧ Hid (TA wr p b m K V (M.adp P (L.take j) o)) ∧ Hid (Fr (M.own L K) W wr))
  case atStart => exact ⟨0, by omega, rfl, hideIt (by rw [List.take_zero, M.adp_nil]; exact h.out.kept g0), hideIt (Fr.refl _ _)⟩
  case round =>
    obtain ⟨j, hj, rfl, HA, HF⟩ := hrel
    by_cases hlt : j < len
    · have hlt' : (j : Int) < (len : Int) := by omega
      obtain ⟨⟨a, c⟩, hac⟩ : ∃ q, L[j]? = some q := ⟨_, List.getElem?_eq_getElem (by rw [hlen.out]; exact hlt)⟩
      have hmem : (a, c) ∈ L := List.mem_of_getElem? hac
      obtain ⟨ha, hc, hpn⟩ := hin.out _ hmem
      have E := ((HR.out.kept g0).fr HF.out (by rintro ⟨c', _, e⟩; exact hgq.out c' _ e rfl)) j _ hac
      rw [Addr.add_lit, Nat.zero_add] at E
      simp only at E
      have e0 := E.at0
      have e1 := E.at1
      obtain ⟨q, hq⟩ : ∃ q, K (a, c) = some q := by
        cases hk : K (a, c) with
        | some q => exact ⟨q, rfl⟩
        | none =>
          cases hp : P (a, c) with
          | none => exact absurd hp hpn
          | some y => obtain ⟨q, h1, _⟩ := h.out.mem _ _ hp; rw [hk] at h1; cases h1
      have Hq := hideIt hq
      have HMem := hideIt hmem
      have Hac := hideIt hac
      clear hac hmem hpn E hq
      go_upto_region 4 with fail
      obtain ⟨W2, hW2, Y, g2, hs2⟩ := sboxNew' wr a c
      rw [hW2]
      clear hW2 e0 e1
      have A2 := HA.out.kept g2
      obtain ⟨y, hy, hm2, hl2⟩ := A2.has Hq.out
      have y0 := Y.at0
      have y1 := Y.at1
      have c0 := A2.cell
      have lk := (A2.kept (gbDrew (gbRefl W2 none))).map.look a c ha hc
      rw [Hq.out] at lk
      have X2 := (X.fr HF.out (by rintro ⟨c', _, e⟩; obtain ⟨_, _, hm, _⟩ := h.out.has e; have := hm.lt; omega)).kept g2
      have x0 := X2.at0
      have x1 := X2.at1
      have x2 := X2.at2
      have q0 := hm2.c0
      have q1 := hm2.c1
      have q2 := hm2.c2
      have qf := hm2.fz
      have Hy := hideIt hy
      have HM2 := hideIt hm2
      clear hm2 hl2 hy A2
      go_wp2
      go_region
      obtain ⟨W3, hW3, HA3, HF3⟩ : ∃ W3, (((W2.setCell ⟨q, 0, none⟩ (.int .i64 on)).setCell ⟨q, 1, none⟩ (.int .i64 oa)).setCell ⟨q, 2, none⟩ (.bool ob)).drew = W3 ∧ Hid (TA W3 p b m K V (M.adp P (L.take (j + 1)) o)) ∧ Hid (Fr (M.own L K) W W3) := by
        obtain ⟨h1, h2, h3⟩ := ho.out
        obtain ⟨T, Gq⟩ := (HA.out.kept g2).setOf (s := (a, c)) (o := y.1) (l := y.2) Hq.out Hy.out o
        rw [h1, h2, h3] at T Gq
        refine ⟨_, rfl, hideIt ?_, hideIt ?_⟩
        · have e := M.adp_snoc P (L.take j) (a, c) o y.1 y.2 Hy.out
          have e2 : L.take (j + 1) = L.take j ++ [(a, c)] := by rw [List.take_add_one, Hac.out]; rfl
          rw [e2, ← e]
          exact T.kept (gbDrewN _ 1 none)
        · exact HF.out.join ((Fr.grown (O := fun i => i = q) g2).trans ((Fr.at (O := fun i => i = q) Gq rfl).trans (Fr.grown (gbDrew (gbRefl _ none))))) (fun i _ e => ⟨(a, c), HMem.out, by rw [e]; exact Hq.out⟩)
      rw [hW3]
      clear hW3
      go_wp2
      go_roundg (gk - 1)
      case rel => exact ⟨j + 1, by omega, by go_num, HA3, HF3⟩
      case measure => omega
    · have hlt' : ¬ (j : Int) < (len : Int) := by omega
      obtain rfl : j = len := by omega
      have HT : Hid (L.take j = L) := hideIt (List.take_of_length_le (by rw [hlen.out]; exact Nat.le_refl _))
      go_wp2
      exact bodyPost_end (results_none rfl _ _ _) rfl ⟨rfl, by have := HA.out; rw [HT.out] at this; exact this, (Fr.grown g0).trans HF.out⟩

set_option maxHeartbeats 400000 in
theorem adopt_nil (w : World) (p : Nat) (on oa : Int) (ob : Bool) :
    Calls Try.prog 69 #[.pointer (some ⟨p, 0, none⟩), .slice none 0 0, .agg #[.int .i64 on, .int .i64 oa, .bool ob]] w fun e w' => e = .returned (.tuple #[]) ∧ w.grownBy w' none := by
  go_enter Try.func69, Try.ntmps69
  go_wp2
  refine wp_loop_rounds 1 ?_
  rw [rounds_succ]
  go_wp2
  exact bodyPost_end (results_none rfl _ _ _) rfl ⟨rfl, gbAlloc _ _ _⟩
theorem adopt_is {w : World} {p b m : Nat} {K : Int × Int → Option Nat} {V : Int × Int → Value} {P : Vw} (h : TA w p b m K V P) (v : Value) (L : List (Int × Int)) (hv : Lst w 0 v L) (hl : L.length ≤ 1000) (on oa : Int) (ob : Bool) (o : Option (Int × Int)) (ho : oN o = on ∧ oA o = oa ∧ oB o = ob)
    (hin : ∀ c ∈ L, I64 c.1 ∧ I64 c.2 ∧ P c ≠ none) (hgq : ∀ g c q, v.ownBlock = some g → K c = some q → g ≠ q) :
    Calls Try.prog 69 #[.pointer (some ⟨p, 0, none⟩), v, .agg #[.int .i64 on, .int .i64 oa, .bool ob]] w fun e w' => e = .returned (.tuple #[]) ∧ TA w' p b m K V (M.adp P L o) ∧ Fr (M.own L K) w w' := by
  rcases hv.form with ⟨rfl, rfl⟩ | ⟨g, cap, rfl, _, _, _, _, hr⟩
  · refine (adopt_nil w p on oa ob).mono ?_
    rintro _ w1 ⟨rfl, g1⟩
    exact ⟨rfl, by rw [M.adp_nil]; exact h.kept g1, Fr.grown g1⟩
  · exact adopt_row (hideIt h) L (hideIt rfl) hl (hideIt hr) on oa ob o (hideIt ho) (hideIt hin) (hideIt (fun c q hq => hgq g c q rfl hq))

/-! ### replace -/
set_option maxHeartbeats 1000000 in
theorem rep_top {w : World} {p b m q : Nat} {K : Int × Int → Option Nat} {V : Int × Int → Value} {P : Vw} (h : Hid (TA w p b m K V P)) (n i : Int) (hn : I64 n) (hi : I64 i) (hk : Hid (K (n, i) = some q)) (l : List (Int × Int)) (hp : Hid (P (n, i) = some (none, l))) (vb : Value) :
    Calls Try.prog 70 #[.pointer (some ⟨p, 0, none⟩), sv n i, vb] w fun e w' => e = .returned (.tuple #[]) ∧ w.grownBy w' none := by
  go_enter Try.func70, Try.ntmps70
  go_upto_region 1 with fail
  obtain ⟨W, hW, X, g0, hs0⟩ := sboxNew' w n i
  rw [hW]
  clear hW
  have A0 := h.out.kept g0
  obtain ⟨y, hy, hm, hl⟩ := A0.has hk.out
  rw [hp.out] at hy; cases hy
  have x0 := X.at0
  have x1 := X.at1
  have c0 := A0.cell
  have lk := (A0.kept (gbDrew (gbRefl W none))).map.look n i hn hi
  rw [hk.out] at lk
  have q0 := hm.c0
  have q1 := hm.c1
  have q2 := hm.c2
  simp only [oN, oA, oB] at q0 q1 q2
  have lk2 := (A0.kept (gbDrew (gbAllocN (gbRefl W none) (.cells #[.int .i64 0, .int .i64 0, .bool false] 105)))).map.look n i hn hi
  rw [hk.out] at lk2
  have ga : W.grownBy (W.alloc (.cells #[.int .i64 0, .int .i64 0, .bool false] 105)) none := gbAllocN (gbRefl W none) _
  have c0' := ga.cell c0 (by simp)
  have x0' := ga.cell x0 (by simp)
  have x1' := ga.cell x1 (by simp)
  have q0' := ga.cell q0 (by simp)
  have q1' := ga.cell q1 (by simp)
  have q2' := ga.cell q2 (by simp)
  clear hm hl A0 hs0
  go_wp2
  go_region
  all_goals (go_wp2; exact bodyPost_ret (results_none rfl _ _ _) rfl ⟨rfl, gbDrew (gbAllocN g0 _)⟩)

set_option maxRecDepth 10000 in
set_option maxHeartbeats 1000000 in
theorem rep_in {w : World} {p b m q qx j j1 len cap g : Nat} {K : Int × Int → Option Nat} {V : Int × Int → Value} {P : Vw} (h : Hid (TA w p b m K V P)) (n i xn xi : Int) (hn : I64 n) (hi : I64 i) (hxn : I64 xn) (hxi : I64 xi) (hk : Hid (K (n, i) = some q)) (l : List (Int × Int)) (hp : Hid (P (n, i) = some (some (xn, xi), l)))
    (hkx : Hid (K (xn, xi) = some qx)) (o : Option (Int × Int)) (lx : List (Int × Int)) (hpx : Hid (P (xn, xi) = some (o, lx))) (hv : Hid (V (xn, xi) = .slice (some ⟨g, 0, none⟩) len cap)) (hlen : Hid (lx.length = len)) (hlen2 : len ≤ 1000) (hj : Hid (lx[j]? = some (n, i))) (hjf : Hid (∀ k, k < j → lx[k]? ≠ some (n, i))) (hj1 : j + 1 = j1)
    (vb : Value) (Kl : List (Int × Int)) (HB : Hid (Lst w 0 vb Kl)) (hbl : Hid (Kl.length ≤ 1000)) (hne : Hid (vb.ownBlock ≠ some g)) :
    Calls Try.prog 70 #[.pointer (some ⟨p, 0, none⟩), sv n i, vb] w fun e w' => e = .returned (.tuple #[]) ∧ ∃ v', (v'.ownBlock = some g ∨ ∀ g', v'.ownBlock = some g' → w.heap.size ≤ g' ∧ g' < w'.heap.size) ∧
      TA w' p b m K (fun t => if t = (xn, xi) then v' else V t) (fun t => if t = (xn, xi) then some (o, lx.take j ++ (Kl ++ lx.drop j1)) else P t) ∧ Fr (fun i' => i' = qx ∨ i' = g) w w' := by
  go_enter Try.func70, Try.ntmps70
  go_upto_region 1 with fail
  obtain ⟨W, hW, X, g0, hs0⟩ := sboxNew' w n i
  rw [hW]
  clear hW
  have A0 := h.out.kept g0
  obtain ⟨y, hy, hm, hl⟩ := A0.has hk.out
  rw [hp.out] at hy; cases hy
  have x0 := X.at0
  have x1 := X.at1
  have c0 := A0.cell
  have lk := (A0.kept (gbDrew (gbRefl W none))).map.look n i hn hi
  rw [hk.out] at lk
  have q0 := hm.c0
  have q1 := hm.c1
  have q2 := hm.c2
  simp only [oN, oA, oB] at q0 q1 q2
  have lk2 := (A0.kept (gbDrew (gbAllocN (gbRefl W none) (.cells #[.int .i64 0, .int .i64 0, .bool false] 105)))).map.look n i hn hi
  rw [hk.out] at lk2
  have ga : W.grownBy (W.alloc (.cells #[.int .i64 0, .int .i64 0, .bool false] 105)) none := gbAllocN (gbRefl W none) _
  have c0' := ga.cell c0 (by simp)
  have x0' := ga.cell x0 (by simp)
  have x1' := ga.cell x1 (by simp)
  have q0' := ga.cell q0 (by simp)
  have q1' := ga.cell q1 (by simp)
  have q2' := ga.cell q2 (by simp)
  clear hm hl A0 hs0
  go_wp2
  go_region
  all_goals (
    clear c0' x0' x1' q0' q1' q2' c0 x0 x1 q0 q1 q2 lk lk2 ga
    obtain ⟨W1, hW1, Z, g1⟩ : ∃ W1, (W.alloc (.cells #[.int .i64 xn, .int .i64 xi, .bool true] 105)).drew = W1 ∧ PBox W1 W.heap.size xn xi true ∧ W.grownBy W1 none := ⟨_, rfl, (PBox.made W xn xi true).kept (gbDrew (gbRefl _ none)), gbDrew (gbAllocN (gbRefl _ none) _)⟩
    rw [hW1]
    clear hW1
    have z2 := Z.at2
    have A1 := hideIt (h.out.kept (gbTrans g0 g1))
    go_upto_region 3 with fail
    have c0 : ∀ y : Gr W1, y.w.cell? ⟨p, 0, none⟩ = some (.map (some b)) := fun y => (A1.out.kept y.g).cell
    have z0 : ∀ y : Gr W1, y.w.cell? ⟨W.heap.size, 0, none⟩ = some (.int .i64 xn) := fun y => (Z.kept y.g).at0
    have z1 : ∀ y : Gr W1, y.w.cell? ⟨W.heap.size, 1, none⟩ = some (.int .i64 xi) := fun y => (Z.kept y.g).at1
    have lk : ∀ y : Gr W1, (Instr.lookup 98 (.map (some b)) (sv xn xi) false).run Try.prog y.w = .ok (ptr (some qx)) y.w := fun y => by rw [← hkx.out]; exact (A1.out.kept y.g).map.look xn xi hxn hxi
    refine wp_region_grown (by kernel_rfl) (by kernel_rfl) fun _ => ?_
    repeat (go_big_quiet_step (fail))
    refine wpQuiet_nil ?_
    rintro W2 ⟨⟨_, g2⟩, rfl⟩
    clear c0 z0 z1 z2 lk
    have G2 := gbTrans (gbTrans g0 g1) g2
    have A2 := hideIt (h.out.kept G2)
    obtain ⟨yx, hyx, hmx, hlx⟩ := A2.out.has hkx.out
    rw [hpx.out] at hyx; cases hyx
    rw [hv.out] at hmx hlx
    have HMx := hideIt hmx
    have HLx := hideIt hlx
    have HRx := hideIt (Lst.rowOf hlx)
    have X2 := X.kept (gbTrans g1 g2)
    have x0 : ∀ y : Gr W2, y.w.cell? ⟨w.heap.size, 0, none⟩ = some (.int .i64 n) := fun y => (X2.kept y.g).at0
    have x1 : ∀ y : Gr W2, y.w.cell? ⟨w.heap.size, 1, none⟩ = some (.int .i64 i) := fun y => (X2.kept y.g).at1
    have q3 : ∀ y : Gr W2, y.w.cell? ⟨qx, 3, none⟩ = some (.slice (some ⟨g, 0, none⟩) len cap) := fun y => y.g.cell HMx.out.c3 (by simp)
    have HI : ∀ y : Gr W2, Calls Try.prog 71 #[.slice (some ⟨g, 0, none⟩) len cap, sv n i] y.w fun e w' => e = .returned (.int .i64 j) ∧ y.w.grownBy w' none := fun y => index_row y.w g len cap j n i lx hlen hlen2 (hideIt (HRx.out.kept y.g)) hj hjf
    clear hmx hlx
    go_wp2
    refine wp_region_grown (by kernel_rfl) (by kernel_rfl) fun _ => ?_
    repeat (go_big_quiet_step ((go_at_call 71; with_reducible exact callsGr (HI _))))
    refine wpQuiet_nil ?_
    rintro W3 ⟨⟨_, g3⟩, rfl⟩
    clear x0 x1 q3 HI
    have G3 := gbTrans G2 g3
    have q3 := g3.cell HMx.out.c3 (by simp)
    have hj1' : (j : Int) + 1 = (j1 : Int) := by omega
    have hjl : Hid (j < lx.length) := hideIt (List.getElem?_eq_some_iff.1 hj.out).1
    have hj1b : j1 ≤ 1000 := by have := hjl.out; rw [hlen.out] at this; omega
    have hl1 : Hid (lx.length ≤ 1000) := hideIt (by rw [hlen.out]; exact hlen2)
    go_wp2_with fail
    refine (replace_is (HLx.out.kept g3) (HB.out.kept G3) (fun g' e => by cases e; exact hne.out) j hjl.out hl1.out hbl.out j1 hj1).mono ?_
    rintro _ W4 ⟨v4, rfl, l4, g4, o4⟩
    obtain ⟨ox, k4, c4, rfl⟩ : ∃ ox k4 c4, v4 = .slice ox k4 c4 := by
      rcases l4.form with ⟨rfl, _⟩ | ⟨_, _, rfl, _⟩
      · exact ⟨_, _, _, rfl⟩
      · exact ⟨_, _, _, rfl⟩
    have A3 := h.out.kept G3
    have hgq : g ≠ qx := A3.gq hkx.out (by rw [hv.out]; rfl) hkx.out
    have M4 : MemAt W4 qx o (.slice (some ⟨g, 0, none⟩) len cap) := (HMx.out.fr (O := fun _ => False) (Fr.grown g3) (fun e => e)).fr (O := fun i' => i' = g) (Fr.at g4 rfl) (fun e => hgq e.symm)
    obtain ⟨T, F⟩ := A3.setCh (s := (xn, xi)) (o := o) (l := lx) (w1 := W4) (v' := .slice ox k4 c4) (l' := lx.take j ++ (Kl ++ lx.drop j1)) hkx.out hpx.out (by rw [hv.out]; exact g4) l4 (by
      rw [hv.out]
      exact o4)
    rw [hv.out] at F
    have HT := hideIt T
    have HF : Hid (Fr (fun i' => i' = qx ∨ i' = g) w (W4.setCell ⟨qx, 3, none⟩ (.slice ox k4 c4))) := hideIt ((Fr.grown G3).trans (F.mono (fun i' _ e => by
      rcases e with e | e
      · exact .inl e
      · exact .inr (by simpa [Value.ownBlock] using e.symm))))
    have HO : Hid ((Value.slice ox k4 c4).ownBlock = some g ∨ ∀ g', (Value.slice ox k4 c4).ownBlock = some g' → w.heap.size ≤ g' ∧ g' < (W4.setCell ⟨qx, 3, none⟩ (.slice ox k4 c4)).heap.size) := hideIt (by
      rcases o4 with e | e
      · exact .inl e
      · exact .inr (fun g' hg' => ⟨Nat.le_trans G3.size (e g' hg'), by
          have := (l4.lt g' hg').2
          simpa [World.setCell] using this⟩))
    have q4 := M4.c3
    have f4 := M4.fz
    clear q3 l4 T F o4 M4 A3
    go_wp2
    exact bodyPost_end (results_none rfl _ _ _) rfl ⟨rfl, _, HO.out, HT.out, HF.out⟩)

end T9
end Go.Proofs.Ytpfjcfgbecoccaa

/-
  WHAT FOLLOWS of the plain tree: parents and children answer one another; no slot is of its own kin; what becomes of kin where a slot goes or moves. Speaks of no function of the program.
-/
namespace Go.Proofs.Ytpfjcfgbecoccaa
set_option maxRecDepth 10000
namespace T9
set_option linter.unusedVariables false
namespace Fo

theorem sub_in {f : Fo} {x : Int × Int} {d : Fo} (h : f.sub x = some d) : x ∈ f.pre := sub_some.1 ⟨d, h⟩
theorem view_in {f : Fo} {p : Option (Int × Int)} {x : Int × Int} {y : Option (Int × Int) × List (Int × Int)} (h : f.view p x = some y) : x ∈ f.pre := Classical.byContradiction fun hc => by rw [view_none.2 hc] at h; cases h
theorem sub_len {f : Fo} {x : Int × Int} {d : Fo} (h : f.sub x = some d) : d.pre.length < f.pre.length := by
  induction f using Fo.ind with
  | nil => cases h
  | node bb oo a e r ihe ihr =>
    simp only [sub] at h
    simp only [pre, List.length_cons, List.length_append]
    split at h
    · cases h; omega
    · cases he : e.sub x with
      | some y => rw [he] at h; simp at h; subst h; have := ihe he; omega
      | none => rw [he] at h; simp at h; have := ihr h; omega
theorem sub_node {bb oo : Nat} {a : Int × Int} {d r : Fo} (hn : (node bb oo a d r).pre.Nodup) {x : Int × Int} : (x ∈ d.pre → (node bb oo a d r).sub x = d.sub x) ∧ (x ∈ r.pre → (node bb oo a d r).sub x = r.sub x) := by
  obtain ⟨h1, h2, h3, h4, h5⟩ := nodup_node.1 hn
  refine ⟨fun h => ?_, fun h => ?_⟩
  · simp only [sub]
    rw [if_neg (show ¬ a = x from fun e => h1 (e ▸ h))]
    obtain ⟨e, he⟩ := sub_some.2 h
    rw [he]; rfl
  · simp only [sub]
    rw [if_neg (show ¬ a = x from fun e => h2 (e ▸ h)), sub_none.2 (fun e => h5 _ e h)]
    rfl
/-- A part is found in the whole. -/
theorem sub_sub {f d : Fo} {x y : Int × Int} (hn : f.pre.Nodup) (h : f.sub x = some d) (hy : y ∈ d.pre) : f.sub y = d.sub y := by
  induction f using Fo.ind with
  | nil => cases h
  | node bb oo a e r ihe ihr =>
    obtain ⟨h1, h2, h3, h4, h5⟩ := nodup_node.1 hn
    have hs := @sub_node bb oo a e r hn y
    simp only [sub] at h
    split at h
    · cases h; exact hs.1 hy
    · cases he : e.sub x with
      | some z =>
        rw [he] at h; simp at h; subst h
        rw [hs.1 (sub_pre he hy)]; exact ihe h3 he
      | none =>
        rw [he] at h; simp at h
        rw [hs.2 (sub_pre h hy)]; exact ihr h4 h
theorem nodup_sub {f d : Fo} {x : Int × Int} (hn : f.pre.Nodup) (h : f.sub x = some d) : d.pre.Nodup ∧ x ∉ d.pre := by
  induction f using Fo.ind with
  | nil => cases h
  | node bb oo a e r ihe ihr =>
    obtain ⟨h1, h2, h3, h4, h5⟩ := nodup_node.1 hn
    simp only [sub] at h
    split at h
    · rename_i ea; cases h; subst ea; exact ⟨h3, h1⟩
    · cases he : e.sub x with
      | some z => rw [he] at h; simp at h; subst h; exact ihe h3 he
      | none => rw [he] at h; simp at h; exact ihr h4 h
theorem nodup_tops {f : Fo} (hn : f.pre.Nodup) : f.tops.Nodup := by
  induction f using Fo.ind with
  | nil => simp [tops]
  | node bb oo a e r ihe ihr =>
    obtain ⟨h1, h2, h3, h4, h5⟩ := nodup_node.1 hn
    simp only [tops, List.nodup_cons]
    exact ⟨fun h => h2 (tops_pre h), ihr h4⟩
/-- Two slots are not of one another's kin. -/
theorem kin_lt {f d e : Fo} {x y : Int × Int} (hn : f.pre.Nodup) (h : f.sub x = some d) (hy : y ∈ d.pre) (he : f.sub y = some e) : e.pre.length < d.pre.length := by
  rw [sub_sub hn h hy] at he
  exact sub_len he

theorem view_top_is {d : Fo} (hn : d.pre.Nodup) {p q : Option (Int × Int)} {x : Int × Int} {l : List (Int × Int)} (h : d.view p x = some (q, l)) : (x ∈ d.tops → q = p) ∧ (x ∉ d.tops → ∃ y, q = some y ∧ y ∈ d.pre) := by
  have h0 := view_top hn none p x
  rw [h] at h0
  cases hv : d.view none x with
  | none => rw [hv] at h0; cases h0
  | some y =>
    rw [hv] at h0
    simp only [Option.map_some, Option.some.injEq, Prod.mk.injEq] at h0
    refine ⟨fun hx => by rw [h0.1, if_pos hx], fun hx => ?_⟩
    rw [if_neg hx] at h0
    obtain ⟨y1, y2⟩ := y
    simp only at h0
    rcases view_par hv with e | e
    · -- y1 = none: then x would stand in the first row
      exfalso
      have h2 := view_top hn (some x) none x
      rw [hv] at h2
      cases hw : d.view (some x) x with
      | none => rw [hw] at h2; cases h2
      | some z =>
        rw [hw] at h2
        simp only [Option.map_some, Option.some.injEq, Prod.mk.injEq, if_neg hx] at h2
        obtain ⟨z1, z2⟩ := z
        simp only at h2
        rcases view_par hw with e2 | ⟨u, e2, _⟩
        · rw [← h2.1, e] at e2; cases e2
        · rw [← h2.1, e] at e2; cases e2
    · rw [h0.1]; exact e
theorem view_node {bb oo : Nat} {a : Int × Int} {d r : Fo} (hn : (node bb oo a d r).pre.Nodup) {p : Option (Int × Int)} {x : Int × Int} : (x ∈ d.pre → (node bb oo a d r).view p x = d.view (some a) x) ∧ (x ∈ r.pre → (node bb oo a d r).view p x = r.view p x) := by
  obtain ⟨h1, h2, h3, h4, h5⟩ := nodup_node.1 hn
  refine ⟨fun h => ?_, fun h => ?_⟩
  · simp only [view]
    rw [if_neg (show ¬ a = x from fun e => h1 (e ▸ h)), view_none.2 (h5 _ h), Option.or_none]
  · simp only [view]
    rw [if_neg (show ¬ a = x from fun e => h2 (e ▸ h)), view_none.2 (fun e => h5 _ e h)]
    rfl
/-- What comes of a slot comes of it. -/
theorem child_par {f : Fo} {p q : Option (Int × Int)} {s c : Int × Int} {l : List (Int × Int)} (hn : f.pre.Nodup) (h : f.view p s = some (q, l)) (hc : c ∈ l) : ∃ l', f.view p c = some (some s, l') := by
  induction f using Fo.ind generalizing p with
  | nil => cases h
  | node bb oo a d r ihd ihr =>
    obtain ⟨h1, h2, h3, h4, h5⟩ := nodup_node.1 hn
    have hv := @view_node bb oo a d r hn p c
    simp only [view] at h
    split at h
    · rename_i ea
      subst ea
      simp only [Option.some.injEq, Prod.mk.injEq] at h
      obtain ⟨_, rfl⟩ := h
      have hcd := tops_pre hc
      rw [hv.1 hcd]
      cases hw : d.view (some a) c with
      | none => exact absurd hcd (view_none.1 hw)
      | some y =>
        obtain ⟨y1, y2⟩ := y
        exact ⟨y2, by rw [(view_top_is h3 hw).1 hc]⟩
    · cases hd : d.view (some a) s with
      | some y =>
        rw [hd] at h
        simp only [Option.some_or, Option.some.injEq] at h
        subst h
        obtain ⟨l', hl'⟩ := ihd h3 hd
        rw [hv.1 (view_in hl')]; exact ⟨l', hl'⟩
      | none =>
        rw [hd] at h
        simp only [Option.none_or] at h
        obtain ⟨l', hl'⟩ := ihr h4 h
        rw [hv.2 (view_in hl')]; exact ⟨l', hl'⟩
/-- A slot is among the children of what it comes of. -/
theorem par_child {f : Fo} {p q : Option (Int × Int)} {s : Int × Int} {l : List (Int × Int)} (hn : f.pre.Nodup) (h : f.view p s = some (q, l)) : q = p ∨ ∃ x y, q = some x ∧ f.view p x = some y ∧ s ∈ y.2 := by
  induction f using Fo.ind generalizing p with
  | nil => cases h
  | node bb oo a d r ihd ihr =>
    obtain ⟨h1, h2, h3, h4, h5⟩ := nodup_node.1 hn
    simp only [view] at h
    split at h
    · simp only [Option.some.injEq, Prod.mk.injEq] at h
      exact .inl h.1.symm
    · cases hd : d.view (some a) s with
      | some y =>
        rw [hd] at h
        simp only [Option.some_or, Option.some.injEq] at h
        subst h
        rcases ihd h3 hd with e | ⟨x, y, e1, e2, e3⟩
        · refine .inr ⟨a, (p, d.tops), e, by simp [view], ?_⟩
          refine Classical.byContradiction fun hc => ?_
          obtain ⟨z, hz, hz2⟩ := (view_top_is h3 hd).2 hc
          rw [e] at hz
          cases hz
          exact h1 hz2
        · exact .inr ⟨x, y, e1, by rw [(@view_node bb oo a d r hn p x).1 (view_in e2)]; exact e2, e3⟩
      | none =>
        rw [hd] at h
        simp only [Option.none_or] at h
        rcases ihr h4 h with e | ⟨x, y, e1, e2, e3⟩
        · exact .inl e
        · exact .inr ⟨x, y, e1, by rw [(@view_node bb oo a d r hn p x).2 (view_in e2)]; exact e2, e3⟩
/-- Of two slots not each comes of the other. -/
theorem par_not {f : Fo} {s x : Int × Int} {q o : Option (Int × Int)} {l lx : List (Int × Int)} (hn : f.pre.Nodup) (hs : f.view none s = some (q, l)) (hx : f.view none x = some (o, lx)) (h : s ∈ lx) : x ∉ l ∧ s ∉ l := by
  obtain ⟨d, hd, rfl⟩ := view_some hs
  obtain ⟨e, he, rfl⟩ := view_some hx
  refine ⟨fun hc => ?_, fun hc => (nodup_sub hn hd).2 (tops_pre hc)⟩
  have h1 := kin_lt hn hd (tops_pre hc) he
  have h2 := kin_lt hn he (tops_pre h) hd
  omega
theorem self_not {f : Fo} {s : Int × Int} {q : Option (Int × Int)} {l : List (Int × Int)} (hn : f.pre.Nodup) (hs : f.view none s = some (q, l)) : s ∉ l := by
  obtain ⟨d, hd, rfl⟩ := view_some hs
  exact fun hc => (nodup_sub hn hd).2 (tops_pre hc)
theorem nodup_ch {f : Fo} {s : Int × Int} {q : Option (Int × Int)} {l : List (Int × Int)} (hn : f.pre.Nodup) (hs : f.view none s = some (q, l)) : l.Nodup ∧ ∀ c ∈ l, c ∈ f.pre := by
  obtain ⟨d, hd, rfl⟩ := view_some hs
  exact ⟨nodup_tops (nodup_sub hn hd).1, fun c hc => sub_pre hd (tops_pre hc)⟩

/-- Where a slot stands in a list without doubles. -/
theorem put_at {l k : List (Int × Int)} {s : Int × Int} (hn : l.Nodup) (h : s ∈ l) : ∃ j, l[j]? = some s ∧ (∀ i, i < j → l[i]? ≠ some s) ∧ put l s k = l.take j ++ (k ++ l.drop (j + 1)) := by
  induction l with
  | nil => cases h
  | cons a l ih =>
    rw [List.nodup_cons] at hn
    by_cases e : a = s
    · subst e
      refine ⟨0, rfl, fun i hi => by omega, ?_⟩
      have := put_out (k := k) hn.1
      unfold put at this ⊢
      simp [this]
    · obtain ⟨j, h1, h2, h3⟩ := ih hn.2 (by rcases List.mem_cons.1 h with h | h; exact absurd h.symm e; exact h)
      refine ⟨j + 1, by simpa using h1, fun i hi => ?_, ?_⟩
      · cases i with
        | zero => simp; exact e
        | succ i => simpa using h2 i (by omega)
      · have h4 : put (a :: l) s k = a :: put l s k := by unfold put; simp [e]
        rw [h4, h3]
        simp
theorem len_drop {f : Fo} {s : Int × Int} (hn : f.pre.Nodup) (h : s ∈ f.pre) : (drop s f).pre.length + 1 = f.pre.length := by
  rw [pre_drop hn]
  have hg : ∀ l : List (Int × Int), l.Nodup → s ∈ l → (l.filter (· != s)).length + 1 = l.length := by
    intro l
    induction l with
    | nil => intro _ h; cases h
    | cons a l ih =>
      intro hn h
      rw [List.nodup_cons] at hn
      by_cases e : a = s
      · subst e
        have : l.filter (· != a) = l := List.filter_eq_self.2 (fun x hx => by simp; exact fun e => hn.1 (e ▸ hx))
        simp [this]
      · have := ih hn.2 (by rcases List.mem_cons.1 h with h | h; exact absurd h.symm e; exact h)
        simp [e, this]
  exact hg _ hn h
theorem len_mv (a b : Int × Int) (f : Fo) : (mv a b f).pre.length = f.pre.length := by rw [pre_mv, List.length_map]

end Fo
end T9
end Go.Proofs.Ytpfjcfgbecoccaa
