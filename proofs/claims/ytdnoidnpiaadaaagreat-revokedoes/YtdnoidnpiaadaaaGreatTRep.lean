/-
  THE CONTRACT of slices.Replace at slots' names, where one element gives way to a list that lies elsewhere.
-/
import Derived.Test.YtdnoidnpiaadaaaGreatTCut
import Derived.Deep.RegionLaw
namespace Go.Proofs.YtdnoidnpiaadaaaGreat
set_option maxRecDepth 10000
namespace T9
open Go.RowKit
set_option linter.unusedVariables false

set_option maxRecDepth 10000 in
set_option maxHeartbeats 1000000 in
theorem replace_end (w : World) (B g n cap i m c : Nat) (ox : Option Addr) (L K : List (Int × Int)) (hn : Hid (L.length = n)) (hn2 : n ≤ 1000) (HL : Hid (Lst w B (.slice (some ⟨g, 0, none⟩) n cap) L)) (hi : i + 1 = n) (hB : Hid (B ≤ w.heap.size))
    (hm : Hid (K.length = m)) (hm1 : 1 ≤ m) (hm2 : m ≤ 1000) (hno : Hid (ox = none → m = 0)) (HK : Hid (∀ ad, ox = some ad → Row w ad K)) (hcap : n ≤ cap) :
    Calls Tryz.prog 136 #[.slice (some ⟨g, 0, none⟩) n cap, .int .i64 i, .int .i64 n, .slice ox m c] w fun e w' => ∃ v', e = .returned v' ∧ Lst w' B v' (L.take i ++ K) ∧ w.grownBy w' (some g) ∧ (v'.ownBlock = some g ∨ v'.ownBlock = some w.heap.size) := by
  have HT : Hid (Lst w B (.slice (some ⟨g, 0, none⟩) i cap) (L.take i)) := hideIt (HL.out.cutTo hn.out i (by omega))
  have hli : Hid ((L.take i).length + m ≤ 1000000) := hideIt (by rw [List.length_take]; omega)
  obtain ⟨k, hk⟩ : ∃ k, i + m = k := ⟨_, rfl⟩
  have hll : Hid ((L.take i ++ K).length = k) := hideIt (by rw [List.length_append, List.length_take, hm.out, hn.out]; omega)
  have hk0 : Hid (0 < k) := hideIt (by omega)
  have hkn : ¬ (k : Int) < (n : Int) := by omega
  have hic : (i : Int) ≤ (cap : Int) := by omega
  have hin : ¬ (i : Int) = (n : Int) := by omega
  have hnc : (n : Int) ≤ (cap : Int) := by omega
  have hin' : (i : Int) ≤ (n : Int) := by omega
  clear hk
  go_enter Tryz.func136, Tryz.ntmps136
  go_wp2_with (at_builtin; refine wpList_append_slots rfl (.tmp 32) (.tmp 33) rfl B (.slice (some ⟨g, 0, none⟩) i cap) (L.take i) rfl HT.out ox m c K rfl hm.out hno.out HK.out hli.out hB.out ?_; intro v1 w1 l1 g1 o1; obtain ⟨g', cap', rfl⟩ := l1.shape hll.out hk0.out; have l1 : Hid (Lst w1 B (.slice (some ⟨g', 0, none⟩) k cap') (L.take i ++ K)) := l1; have o1 := hideIt o1)
  go_ret
  exact ⟨_, rfl, l1.out, g1, o1.out⟩

set_option maxRecDepth 10000 in
set_option maxHeartbeats 1000000 in
theorem replace_end0 (w : World) (B g n cap i c : Nat) (ox : Option Addr) (L : List (Int × Int)) (hn : Hid (L.length = n)) (hn2 : n ≤ 1000) (HL : Hid (Lst w B (.slice (some ⟨g, 0, none⟩) n cap) L)) (hi : i + 1 = n) (hcap : n ≤ cap) :
    Calls Tryz.prog 136 #[.slice (some ⟨g, 0, none⟩) n cap, .int .i64 i, .int .i64 n, .slice ox 0 c] w fun e w' => ∃ v', e = .returned v' ∧ Lst w' B v' (L.take i) ∧ w.grownBy w' (some g) ∧ v'.ownBlock = some g := by
  obtain ⟨cur, hg, hc, hcm, ht, hB, _⟩ := HL.out.open hn.out
  have Hg := hideIt hg
  have HE : Hid (∀ w', w'.heap[g]? = some (.cells (splice cur (i * 2) [.int .i64 0, .int .i64 0]).toArray 31 (0, 0)) → Lst w' B (.slice (some ⟨g, 0, none⟩) i cap) (L.take i)) := hideIt (fun w' hg' => by
    refine Lst.of hB hg' (by rw [length_splice _ _ _ (by simp; omega)]; exact hc) hcm (by omega) (by rw [List.length_take, hn.out]; omega) ?_
    rw [take_splice' _ _ _ (by omega), cellsL_take, ← ht, List.take_take, Nat.min_eq_left (by omega)])
  obtain ⟨w1, hr1, hg1, g1⟩ := clear1_run w 0 g (i * 2) (cap - i) cur hg (by omega)
  clear hg hc hcm ht hB
  have hni : n - i = 1 := by omega
  have hic : (i : Int) ≤ (cap : Int) := by omega
  have hic' : i ≤ cap := by omega
  have hin : ¬ (i : Int) = (n : Int) := by omega
  have hnc : (n : Int) ≤ (cap : Int) := by omega
  have hin' : (i : Int) ≤ (n : Int) := by omega
  have hin2 : (i : Int) < (n : Int) := by omega
  go_enter Tryz.func136, Tryz.ntmps136
  go_wp2_with (at_builtin; refine wpList_append_zero rfl (.tmp 32) (.tmp 33) rfl g i cap hic' ox c rfl rfl ?_)
  go_ret
  exact ⟨_, rfl, HE.out _ hg1.out, g1, rfl⟩

set_option maxRecDepth 10000 in
set_option maxHeartbeats 1000000 in
theorem replace_wide (w : World) (B g h n cap i j m c im tot : Nat) (L K : List (Int × Int)) (hn : Hid (L.length = n)) (hn2 : n ≤ 1000) (HL : Hid (Lst w B (.slice (some ⟨g, 0, none⟩) n cap) L)) (hj : i + 1 = j) (hjn : j < n)
    (hm : Hid (K.length = m)) (hm1 : 2 ≤ m) (hm2 : m ≤ 1000) (HK : Hid (Lst w 0 (.slice (some ⟨h, 0, none⟩) m c) K)) (hgh : g ≠ h) (him : i + m = im) (nj : Nat) (hnj0 : n - j = nj) (htot : im + nj = tot) (hroom : tot ≤ cap) :
    Calls Tryz.prog 136 #[.slice (some ⟨g, 0, none⟩) n cap, .int .i64 i, .int .i64 j, .slice (some ⟨h, 0, none⟩) m c] w fun e w' => ∃ v', e = .returned v' ∧ Lst w' B v' (L.take i ++ (K ++ L.drop j)) ∧ w.grownBy w' (some g) ∧ v'.ownBlock = some g := by
  obtain ⟨cur, hg, hc, hcm, ht, hB, _⟩ := HL.out.open hn.out
  obtain ⟨cur', hh, hc', hcm', ht', _, hmc⟩ := HK.out.open hm.out
  have Hg := hideIt hg
  have Hh := hideIt hh
  have Hne : Hid (cur' ≠ []) := hideIt (fun e => by rw [e] at hc'; simp at hc'; omega)
  have HF1 : Hid (im * 2 + (cellsL (L.drop j)).length ≤ cur.length) := hideIt (by rw [cellsL_len, List.length_drop, hn.out]; omega)
  have HC1 : Hid ((cellsL (L.drop j)).length = Nat.min nj nj * 2) := hideIt (by rw [cellsL_len, List.length_drop, hn.out, hnj0]; simp)
  have HC2 : Hid ((cellsL K).length = Nat.min m (tot - i) * 2) := hideIt (by rw [cellsL_len, hm.out]; show _ = min m (tot - i) * 2; omega)
  have HS1 : Hid (∀ w1, w.grownBy w1 none → ∀ q v, (cellsL (L.drop j))[q]? = some v → w1.cell? ((⟨g, j * 2, none⟩ : Addr).add q) = some v) := hideIt (fun w1 g1 q v hv => by
    rw [Addr.add_lit]
    refine g1.cell ?_ (by simp)
    rw [blkCell hg]
    rw [cellsL_drop, ← ht, List.getElem?_drop, List.getElem?_take] at hv
    split at hv
    · exact hv
    · cases hv)
  have HS2 : Hid (∀ w1, w.grownBy w1 (some g) → ∀ q v, (cellsL K)[q]? = some v → w1.cell? ((⟨h, 0, none⟩ : Addr).add q) = some v) := hideIt (fun w1 g1 q v hv => by
    rw [Addr.add_lit]
    refine g1.cell ?_ (by simp; exact fun e => hgh e.symm)
    rw [blkCell hh]
    rw [← ht', List.getElem?_take] at hv
    split at hv
    · rw [Nat.zero_add]; exact hv
    · cases hv)
  have HE : Hid (∀ w', w'.heap[g]? = some (.cells (splice (splice cur (im * 2) (cellsL (L.drop j))) (i * 2) (cellsL K)).toArray 31 (0, 0)) → Lst w' B (.slice (some ⟨g, 0, none⟩) tot cap) (L.take i ++ (K ++ L.drop j))) := hideIt (fun w' hg' => by
    have lK : (cellsL K).length = m * 2 := by rw [cellsL_len, hm.out]
    have lZ : (cellsL (L.drop j)).length = nj * 2 := by rw [cellsL_len, List.length_drop, hn.out, hnj0]
    have l1 : (splice cur (im * 2) (cellsL (L.drop j))).length = cur.length := length_splice _ _ _ HF1.out
    refine Lst.of hB hg' (by rw [length_splice _ _ _ (by rw [l1, lK]; omega), l1]; exact hc) hcm hroom (by rw [List.length_append, List.length_append, List.length_take, List.length_drop, hn.out, hm.out]; omega) ?_
    have := splice_b cur (cellsL K) (cellsL (L.drop j)) (i * 2) (by rw [lK, lZ]; omega)
    rw [lK, lZ, show i * 2 + m * 2 = im * 2 by omega, show im * 2 + nj * 2 = tot * 2 by omega] at this
    rw [this, ← cellsL_app, ← cellsL_app, cellsL_take, ← ht, List.take_take, Nat.min_eq_left (by omega)])
  have HF2 : Hid (i * 2 + (cellsL K).length ≤ (splice cur (im * 2) (cellsL (L.drop j))).length) := hideIt (by rw [length_splice _ _ _ HF1.out, cellsL_len, hm.out]; omega)
  have hti : tot - im = nj := by omega
  have hic : (i : Int) ≤ (cap : Int) := by omega
  have hij : ¬ (i : Int) = (j : Int) := by omega
  have hij' : (i : Int) ≤ (j : Int) := by omega
  have hjc : (j : Int) ≤ (cap : Int) := by omega
  have hjn1 : ¬ (j : Int) = (n : Int) := by omega
  have hjn2 : (j : Int) ≤ (n : Int) := by omega
  have him' : (i : Int) + (m : Int) = (im : Int) := by omega
  have htot' : (im : Int) + (nj : Int) = (tot : Int) := by omega
  have hroom' : ¬ (cap : Int) < (tot : Int) := by omega
  have hroom2 : (tot : Int) ≤ (cap : Int) := by omega
  have himj : ¬ (im : Int) ≤ (j : Int) := by omega
  have himt : (im : Int) ≤ (tot : Int) := by omega
  have hit : (i : Int) ≤ (tot : Int) := by omega
  have hw : IntKind.i64.wrap (im : Int) = (im : Int) := by rw [IntKind.wrap_i64]; omega
  have hcim : ¬ cap = im := by omega
  have hcj : ¬ cap = j := by omega
  have hci : ¬ cap = i := by omega
  clear hg hh hc' hcm' ht' hc hcm ht
  go_enter Tryz.func136, Tryz.ntmps136
  go_upto_region 9 with fail
  refine wp_region_grown (by kernel_rfl) (by kernel_rfl) fun _ => ?_
  repeat (go_big_quiet_step (fail))
  refine wpQuiet_nil ?_
  rintro w1 ⟨⟨_, g1⟩, rfl⟩
  have hov := overlaps_run w1 g h (im * 2) nj (cap - im) m c cur cur' hgh ((g1.block g (Array.getElem?_eq_some_iff.1 Hg.out).1 (by simp)).trans Hg.out) ((g1.block h (Array.getElem?_eq_some_iff.1 Hh.out).1 (by simp)).trans Hh.out) Hne.out
  have g1d := gbDrew g1
  have Hg1 : Hid (w1.drew.heap[g]? = some (.cells cur.toArray 31 (0, 0))) := hideIt ((g1.block g (Array.getElem?_eq_some_iff.1 Hg.out).1 (by simp)).trans Hg.out)
  obtain ⟨w2, hr2, hg2, g2⟩ := copied2 w1.drew 3 (some ⟨g, im * 2, none⟩) (some ⟨g, j * 2, none⟩) nj (cap - im) nj (cap - j) g (im * 2) cur Hg1.out (cellsL (L.drop j)) HC1.out (fun _ => ⟨rfl, _, rfl, HS1.out w1.drew g1d⟩) HF1.out (cellsL_one _)
  have g2w : w.grownBy w2 (some g) := gbTrans (gbAny g1d _) g2
  obtain ⟨w3, hr3, hg3, g3⟩ := copied2 w2 3 (some ⟨g, i * 2, none⟩) (some ⟨h, 0, none⟩) (tot - i) (cap - i) m c g (i * 2) _ hg2 (cellsL K) HC2.out (fun _ => ⟨rfl, _, rfl, HS2.out w2 g2w⟩) HF2.out (cellsL_one _)
  have HL3 := hideIt (HE.out w3 hg3)
  clear hg2 hg3
  go_upto_region 22 with fail
  go_region
  go_wp2
  go_ret
  exact ⟨_, rfl, HL3.out, gbTrans g2w g3, rfl⟩

set_option maxRecDepth 10000 in
set_option maxHeartbeats 1000000 in
theorem replace_grow (w : World) (B g h n cap i j m c im tot : Nat) (L K : List (Int × Int)) (hn : Hid (L.length = n)) (hn2 : n ≤ 1000) (HL : Hid (Lst w B (.slice (some ⟨g, 0, none⟩) n cap) L)) (hj : i + 1 = j) (hjn : j < n) (hB : Hid (B ≤ w.heap.size))
    (hm : Hid (K.length = m)) (hm1 : 2 ≤ m) (hm2 : m ≤ 1000) (HK : Hid (Lst w 0 (.slice (some ⟨h, 0, none⟩) m c) K)) (him : i + m = im) (nj : Nat) (hnj0 : n - j = nj) (htot : im + nj = tot) (hroom : cap < tot) :
    Calls Tryz.prog 136 #[.slice (some ⟨g, 0, none⟩) n cap, .int .i64 i, .int .i64 j, .slice (some ⟨h, 0, none⟩) m c] w fun e w' => ∃ v' G, e = .returned v' ∧ Lst w' B v' (L.take i ++ (K ++ L.drop j)) ∧ w.grownBy w' none ∧ v'.ownBlock = some G ∧ w.heap.size ≤ G := by
  obtain ⟨cur, hg, hc, hcm, ht, _, hncap⟩ := HL.out.open hn.out
  obtain ⟨cur', hh, hc', hcm', ht', _, hmc⟩ := HK.out.open hm.out
  have HR : Hid (Row w ⟨g, 0, none⟩ (L.take i)) := hideIt (HL.out.cutTo hn.out i (by omega)).rowOf
  have hLi : Hid ((L.take i).length = i) := hideIt (by rw [List.length_take, hn.out]; omega)
  have lK : (cellsL K).length = m * 2 := by rw [cellsL_len, hm.out]
  have lZ : (cellsL (L.drop j)).length = nj * 2 := by rw [cellsL_len, List.length_drop, hn.out, hnj0]
  have HC1 : Hid ((cellsL (L.drop j)).length = Nat.min nj nj * 2) := hideIt (by rw [lZ]; simp)
  have HC2 : Hid ((cellsL K).length = Nat.min m (tot - i) * 2) := hideIt (by rw [lK]; show _ = min m (tot - i) * 2; omega)
  have hglt : g < w.heap.size := (Array.getElem?_eq_some_iff.1 hg).1
  have hhlt : h < w.heap.size := (Array.getElem?_eq_some_iff.1 hh).1
  have HS1 : Hid (∀ w1, w.grownBy w1 none → ∀ q v, (cellsL (L.drop j))[q]? = some v → w1.cell? ((⟨g, j * 2, none⟩ : Addr).add q) = some v) := hideIt (fun w1 g1 q v hv => by
    rw [Addr.add_lit]
    refine g1.cell ?_ (by simp)
    rw [blkCell hg]
    rw [cellsL_drop, ← ht, List.getElem?_drop, List.getElem?_take] at hv
    split at hv
    · exact hv
    · cases hv)
  have HS2 : Hid (∀ w1, w.grownBy w1 none → ∀ q v, (cellsL K)[q]? = some v → w1.cell? ((⟨h, 0, none⟩ : Addr).add q) = some v) := hideIt (fun w1 g1 q v hv => by
    rw [Addr.add_lit]
    refine g1.cell ?_ (by simp)
    rw [blkCell hh]
    rw [← ht', List.getElem?_take] at hv
    split at hv
    · rw [Nat.zero_add]; exact hv
    · cases hv)
  have HE : Hid (∀ w' G, B ≤ G → ∀ cap2 C, (C : List Value).length = cap2 * 2 → cap2 ≤ maxLen → tot ≤ cap2 → C.take (i * 2) = cellsL (L.take i) → w'.heap[G]? = some (.cells (splice (splice C (i * 2) (cellsL K)) (im * 2) (cellsL (L.drop j))).toArray 31 (0, 0)) → Lst w' B (.slice (some ⟨G, 0, none⟩) tot cap2) (L.take i ++ (K ++ L.drop j))) := hideIt (fun w' G hG cap2 C hC hcm2 htc hCt hg' => by
    have l1 : (splice C (i * 2) (cellsL K)).length = C.length := length_splice _ _ _ (by rw [lK]; omega)
    refine Lst.of hG hg' (by rw [length_splice _ _ _ (by rw [l1, lZ]; omega), l1]; exact hC) hcm2 htc (by rw [List.length_append, List.length_append, List.length_take, List.length_drop, hn.out, hm.out]; omega) ?_
    have := splice_a C (cellsL K) (cellsL (L.drop j)) (i * 2) (by rw [lK, lZ]; omega)
    rw [lK, lZ, show i * 2 + m * 2 = im * 2 by omega, show im * 2 + nj * 2 = tot * 2 by omega] at this
    rw [this, hCt, cellsL_app, cellsL_app])
  have HF1 : Hid (∀ cap2 C, (C : List Value).length = cap2 * 2 → tot ≤ cap2 → i * 2 + (cellsL K).length ≤ C.length ∧ im * 2 + (cellsL (L.drop j)).length ≤ (splice C (i * 2) (cellsL K)).length) := hideIt (fun cap2 C hC h2 => by
    have h3 : i * 2 + (cellsL K).length ≤ C.length := by rw [lK]; omega
    exact ⟨h3, by rw [length_splice _ _ _ h3, lZ]; omega⟩)
  obtain ⟨k, hk⟩ : ∃ k, tot - i = k := ⟨_, rfl⟩
  have hk0 : 0 < k := by omega
  have hk1 : k ≤ 100000 := by omega
  have hi1 : i ≤ 100000 := by omega
  have hik : Hid (i + k = tot) := hideIt (by omega)
  have hk' : (tot : Int) - (i : Int) = (k : Int) := by omega
  have hti : tot - im = nj := by omega
  have hic : (i : Int) ≤ (cap : Int) := by omega
  have hij : ¬ (i : Int) = (j : Int) := by omega
  have hij' : (i : Int) ≤ (j : Int) := by omega
  have hjc : (j : Int) ≤ (cap : Int) := by omega
  have hjn1 : ¬ (j : Int) = (n : Int) := by omega
  have hjn2 : (j : Int) ≤ (n : Int) := by omega
  have him' : (i : Int) + (m : Int) = (im : Int) := by omega
  have htot' : (im : Int) + (nj : Int) = (tot : Int) := by omega
  have hroom' : (cap : Int) < (tot : Int) := by omega
  have himt : (im : Int) ≤ (tot : Int) := by omega
  have hit : (i : Int) ≤ (tot : Int) := by omega
  have hw : IntKind.i64.wrap (im : Int) = (im : Int) := by rw [IntKind.wrap_i64]; omega
  have hcj : ¬ cap = j := by omega
  clear hg hh hc' hcm' ht' hc hcm ht hk lK lZ
  go_enter Tryz.func136, Tryz.ntmps136
  go_upto_region 9 with fail
  refine wp_region_grown (by kernel_rfl) (by kernel_rfl) fun _ => ?_
  repeat (go_big_quiet_step (fail))
  refine wpQuiet_nil ?_
  rintro w1 ⟨⟨_, g1⟩, rfl⟩
  have hz1 := g1.size
  go_upto_region 12 with (at_builtin; refine wpList_append_zeros rfl (.tmp 63) (.tmp 66) rfl g i cap k (L.take i) rfl rfl hLi.out (HR.out.kept g1) hk0 hk1 hi1 tot hik.out hroom ?_; intro w2 cap2 C hg2 hC hcm2 htc hCt g2)
  have gw2 := gbTrans g1 g2
  obtain ⟨hf1, hf2⟩ := HF1.out cap2 C hC htc
  obtain ⟨w3, hr3, hg3, g3⟩ := copied2 w2 3 (some ⟨w1.heap.size, i * 2, none⟩) (some ⟨h, 0, none⟩) (tot - i) (cap2 - i) m c w1.heap.size (i * 2) C hg2.out (cellsL K) HC2.out (fun _ => ⟨rfl, _, rfl, HS2.out w2 gw2⟩) hf1 (cellsL_one _)
  have gw3 : w.grownBy w3 none := gbNew (gbTrans (gbAny gw2 _) g3) hz1
  have gw3d := gbDrew gw3
  have hg3d : w3.drew.heap[w1.heap.size]? = _ := hg3
  obtain ⟨w4, hr4, hg4, g4⟩ := copied2 w3.drew 3 (some ⟨w1.heap.size, im * 2, none⟩) (some ⟨g, j * 2, none⟩) nj (cap2 - im) nj (cap - j) w1.heap.size (im * 2) _ hg3d (cellsL (L.drop j)) HC1.out (fun _ => ⟨rfl, _, rfl, HS1.out w3.drew gw3d⟩) hf2 (cellsL_one _)
  have HL4 := hideIt (HE.out w4 w1.heap.size (Nat.le_trans hB.out hz1) cap2 C hC hcm2 htc hCt.out hg4)
  have gw4 : w.grownBy w4 none := gbNew (gbTrans (gbAny gw3d _) g4) hz1
  have hc2i : ¬ cap2 = i := by omega
  have hc2m : ¬ cap2 = im := by omega
  have htc' : (tot : Int) ≤ (cap2 : Int) := by omega
  clear hg3 hg3d hg4 hf1 hf2 hC
  go_upto_region 13 with fail
  go_region
  go_wp2
  go_ret
  exact ⟨_, w1.heap.size, rfl, HL4.out, gw4, rfl, hz1⟩

set_option maxRecDepth 10000 in
set_option maxHeartbeats 1000000 in
theorem replace_none (w : World) (B g n cap i j c tot : Nat) (ox : Option Addr) (L : List (Int × Int)) (hn : Hid (L.length = n)) (hn2 : n ≤ 1000) (HL : Hid (Lst w B (.slice (some ⟨g, 0, none⟩) n cap) L)) (hj : i + 1 = j) (hjn : j < n) (nj : Nat) (hnj0 : n - j = nj) (htot : i + nj = tot) :
    Calls Tryz.prog 136 #[.slice (some ⟨g, 0, none⟩) n cap, .int .i64 i, .int .i64 j, .slice ox 0 c] w fun e w' => ∃ v', e = .returned v' ∧ Lst w' B v' (L.take i ++ L.drop j) ∧ w.grownBy w' (some g) ∧ v'.ownBlock = some g := by
  obtain ⟨cur, hg, hc, hcm, ht, hB, hncap⟩ := HL.out.open hn.out
  have Hg := hideIt hg
  have lZ : (cellsL (L.drop j)).length = nj * 2 := by rw [cellsL_len, List.length_drop, hn.out, hnj0]
  have HC1 : Hid ((cellsL (L.drop j)).length = Nat.min nj nj * 2) := hideIt (by rw [lZ]; simp)
  have HS1 : Hid (∀ w1, w.grownBy w1 none → ∀ q v, (cellsL (L.drop j))[q]? = some v → w1.cell? ((⟨g, j * 2, none⟩ : Addr).add q) = some v) := hideIt (fun w1 g1 q v hv => by
    rw [Addr.add_lit]
    refine g1.cell ?_ (by simp)
    rw [blkCell hg]
    rw [cellsL_drop, ← ht, List.getElem?_drop, List.getElem?_take] at hv
    split at hv
    · exact hv
    · cases hv)
  have HF1 : Hid (i * 2 + (cellsL (L.drop j)).length ≤ cur.length) := hideIt (by rw [lZ]; omega)
  have HF2 : Hid (tot * 2 + 2 ≤ (splice cur (i * 2) (cellsL (L.drop j))).length) := hideIt (by rw [length_splice _ _ _ HF1.out]; omega)
  have HE : Hid (∀ w', w'.heap[g]? = some (.cells (splice (splice cur (i * 2) (cellsL (L.drop j))) (tot * 2) [.int .i64 0, .int .i64 0]).toArray 31 (0, 0)) → Lst w' B (.slice (some ⟨g, 0, none⟩) tot cap) (L.take i ++ L.drop j)) := hideIt (fun w' hg' => by
    have l1 : (splice cur (i * 2) (cellsL (L.drop j))).length = cur.length := length_splice _ _ _ HF1.out
    refine Lst.of hB hg' (by rw [length_splice _ _ _ (by rw [l1]; simp; omega), l1]; exact hc) hcm (by omega) (by rw [List.length_append, List.length_take, List.length_drop, hn.out]; omega) ?_
    have := take_splice cur (i * 2) (cellsL (L.drop j)) HF1.out
    rw [lZ, show i * 2 + nj * 2 = tot * 2 by omega] at this
    rw [take_splice' _ _ _ (by rw [l1]; omega), this, ← cellsL_app, cellsL_take, ← ht, List.take_take, Nat.min_eq_left (by omega)])
  have hti : tot - i = nj := by omega
  have hic : (i : Int) ≤ (cap : Int) := by omega
  have hij : ¬ (i : Int) = (j : Int) := by omega
  have hij' : (i : Int) ≤ (j : Int) := by omega
  have hjc : (j : Int) ≤ (cap : Int) := by omega
  have hjn1 : ¬ (j : Int) = (n : Int) := by omega
  have hjn2 : (j : Int) ≤ (n : Int) := by omega
  have htot' : (i : Int) + (nj : Int) = (tot : Int) := by omega
  have hroom' : ¬ (cap : Int) < (tot : Int) := by omega
  have hroom2 : (tot : Int) ≤ (cap : Int) := by omega
  have hit : (i : Int) ≤ (tot : Int) := by omega
  have htn : (tot : Int) ≤ (n : Int) := by omega
  have hw : IntKind.i64.wrap (i : Int) = (i : Int) := by rw [IntKind.wrap_i64]; omega
  have hcj : ¬ cap = j := by omega
  have hci : ¬ cap = i := by omega
  have hct : ¬ cap = tot := by omega
  have hnt : n - tot = 1 := by omega
  clear hg hc hcm ht lZ
  go_enter Tryz.func136, Tryz.ntmps136
  go_upto_region 9 with fail
  refine wp_region_grown (by kernel_rfl) (by kernel_rfl) fun _ => ?_
  repeat (go_big_quiet_step (fail))
  refine wpQuiet_nil ?_
  rintro w1 ⟨⟨_, g1⟩, rfl⟩
  have g1d := gbDrew g1
  have Hg1 : Hid (w1.drew.heap[g]? = some (.cells cur.toArray 31 (0, 0))) := hideIt ((g1.block g (Array.getElem?_eq_some_iff.1 Hg.out).1 (by simp)).trans Hg.out)
  have hr1 := run_copy2_none w1 3 (some ⟨g, i * 2, none⟩) ox nj (cap - i) 0 c (Nat.zero_min _)
  obtain ⟨w2, hr2, hg2, g2⟩ := copied2 w1.drew 3 (some ⟨g, i * 2, none⟩) (some ⟨g, j * 2, none⟩) nj (cap - i) nj (cap - j) g (i * 2) cur Hg1.out (cellsL (L.drop j)) HC1.out (fun _ => ⟨rfl, _, rfl, HS1.out w1.drew g1d⟩) HF1.out (cellsL_one _)
  have g2w : w.grownBy w2 (some g) := gbTrans (gbAny g1d _) g2
  obtain ⟨w3, hr3, hg3, g3⟩ := clear1_run w2 0 g (tot * 2) (cap - tot) _ hg2 HF2.out
  have HL3 := hideIt (HE.out w3 hg3.out)
  clear hg2 hg3
  go_upto_region 18 with fail
  go_region
  go_wp2
  go_ret
  exact ⟨_, rfl, HL3.out, gbTrans g2w g3, rfl⟩

set_option maxRecDepth 10000 in
set_option maxHeartbeats 1000000 in
theorem replace_one (w : World) (B g h n cap i j c : Nat) (L K : List (Int × Int)) (hn : Hid (L.length = n)) (hn2 : n ≤ 1000) (HL : Hid (Lst w B (.slice (some ⟨g, 0, none⟩) n cap) L)) (hj : i + 1 = j) (hjn : j < n) (hm : Hid (K.length = 1)) (HK : Hid (Lst w 0 (.slice (some ⟨h, 0, none⟩) 1 c) K)) (hgh : g ≠ h) (nj : Nat) (hnj0 : n - j = nj) :
    Calls Tryz.prog 136 #[.slice (some ⟨g, 0, none⟩) n cap, .int .i64 i, .int .i64 j, .slice (some ⟨h, 0, none⟩) 1 c] w fun e w' => ∃ v', e = .returned v' ∧ Lst w' B v' (L.take i ++ (K ++ L.drop j)) ∧ w.grownBy w' (some g) ∧ v'.ownBlock = some g := by
  obtain ⟨cur, hg, hc, hcm, ht, hB, hncap⟩ := HL.out.open hn.out
  obtain ⟨cur', hh, hc', hcm', ht', _, hmc⟩ := HK.out.open hm.out
  have Hg := hideIt hg
  have lK : (cellsL K).length = 2 := by rw [cellsL_len, hm.out]
  have lZ : (cellsL (L.drop j)).length = nj * 2 := by rw [cellsL_len, List.length_drop, hn.out, hnj0]
  have HC1 : Hid ((cellsL (L.drop j)).length = Nat.min nj nj * 2) := hideIt (by rw [lZ]; simp)
  have HC2 : Hid ((cellsL K).length = Nat.min 1 (n - i) * 2) := hideIt (by rw [lK]; show _ = min 1 (n - i) * 2; omega)
  have HF2 : Hid (i * 2 + (cellsL K).length ≤ cur.length) := hideIt (by rw [lK]; omega)
  have HF1 : Hid (j * 2 + (cellsL (L.drop j)).length ≤ (splice cur (i * 2) (cellsL K)).length) := hideIt (by rw [length_splice _ _ _ HF2.out, lZ]; omega)
  have HS1 : Hid (∀ w1 : World, w1.heap[g]? = some (.cells (splice cur (i * 2) (cellsL K)).toArray 31 (0, 0)) → ∀ q v, (cellsL (L.drop j))[q]? = some v → w1.cell? ((⟨g, j * 2, none⟩ : Addr).add q) = some v) := hideIt (fun w1 hg1 q v hv => by
    rw [Addr.add_lit, blkCell hg1]
    have e := drop_splice cur (i * 2) (cellsL K) HF2.out
    rw [lK, show i * 2 + 2 = j * 2 by omega] at e
    rw [← List.getElem?_drop, e, List.getElem?_drop]
    rw [cellsL_drop, ← ht, List.getElem?_drop, List.getElem?_take] at hv
    split at hv
    · exact hv
    · cases hv)
  have HS2 : Hid (∀ w1, w.grownBy w1 none → ∀ q v, (cellsL K)[q]? = some v → w1.cell? ((⟨h, 0, none⟩ : Addr).add q) = some v) := hideIt (fun w1 g1 q v hv => by
    rw [Addr.add_lit]
    refine g1.cell ?_ (by simp)
    rw [blkCell hh]
    rw [← ht', List.getElem?_take] at hv
    split at hv
    · rw [Nat.zero_add]; exact hv
    · cases hv)
  have HE : Hid (∀ w', w'.heap[g]? = some (.cells (splice (splice cur (i * 2) (cellsL K)) (j * 2) (cellsL (L.drop j))).toArray 31 (0, 0)) → Lst w' B (.slice (some ⟨g, 0, none⟩) n cap) (L.take i ++ (K ++ L.drop j))) := hideIt (fun w' hg' => by
    have l1 : (splice cur (i * 2) (cellsL K)).length = cur.length := length_splice _ _ _ HF2.out
    refine Lst.of hB hg' (by rw [length_splice _ _ _ HF1.out, l1]; exact hc) hcm hncap (by rw [List.length_append, List.length_append, List.length_take, List.length_drop, hn.out, hm.out]; omega) ?_
    have := splice_a cur (cellsL K) (cellsL (L.drop j)) (i * 2) (by rw [lK, lZ]; omega)
    rw [lK, lZ, show i * 2 + 2 = j * 2 by omega, show j * 2 + nj * 2 = n * 2 by omega] at this
    rw [this, ← cellsL_app, ← cellsL_app, cellsL_take, ← ht, List.take_take, Nat.min_eq_left (by omega)])
  have hc0 := clear0_run
  have hic : (i : Int) ≤ (cap : Int) := by omega
  have hij : ¬ (i : Int) = (j : Int) := by omega
  have hij' : (i : Int) ≤ (j : Int) := by omega
  have hjc : (j : Int) ≤ (cap : Int) := by omega
  have hjn1 : ¬ (j : Int) = (n : Int) := by omega
  have hjn2 : (j : Int) ≤ (n : Int) := by omega
  have him' : (i : Int) + 1 = (j : Int) := by omega
  have htot' : (j : Int) + (nj : Int) = (n : Int) := by omega
  have hroom' : ¬ (cap : Int) < (n : Int) := by omega
  have hroom2 : (n : Int) ≤ (cap : Int) := by omega
  have hit : (i : Int) ≤ (n : Int) := by omega
  have hw : IntKind.i64.wrap (j : Int) = (j : Int) := by rw [IntKind.wrap_i64]; omega
  have hcj : ¬ cap = j := by omega
  have hci : ¬ cap = i := by omega
  clear hg hh hc' hcm' ht' hc hcm ht lK lZ
  go_enter Tryz.func136, Tryz.ntmps136
  go_upto_region 9 with fail
  refine wp_region_grown (by kernel_rfl) (by kernel_rfl) fun _ => ?_
  repeat (go_big_quiet_step (fail))
  refine wpQuiet_nil ?_
  rintro w1 ⟨⟨_, g1⟩, rfl⟩
  have Hg1 : Hid (w1.heap[g]? = some (.cells cur.toArray 31 (0, 0))) := hideIt ((g1.block g (Array.getElem?_eq_some_iff.1 Hg.out).1 (by simp)).trans Hg.out)
  obtain ⟨w2, hr2, hg2, g2⟩ := copied2 w1 3 (some ⟨g, i * 2, none⟩) (some ⟨h, 0, none⟩) (n - i) (cap - i) 1 c g (i * 2) cur Hg1.out (cellsL K) HC2.out (fun _ => ⟨rfl, _, rfl, HS2.out w1 g1⟩) HF2.out (cellsL_one _)
  have hg2d : w2.drew.heap[g]? = _ := hg2
  obtain ⟨w3, hr3, hg3, g3⟩ := copied2 w2.drew 3 (some ⟨g, j * 2, none⟩) (some ⟨g, j * 2, none⟩) nj (cap - j) nj (cap - j) g (j * 2) _ hg2d (cellsL (L.drop j)) HC1.out (fun _ => ⟨rfl, _, rfl, HS1.out w2.drew hg2d⟩) HF1.out (cellsL_one _)
  have HL3 := hideIt (HE.out w3 hg3)
  have gw3 : w.grownBy w3 (some g) := gbTrans (gbTrans (gbAny g1 _) g2) (gbTrans (gbDrewN w2 1 _) g3)
  clear hg2 hg2d hg3
  go_upto_region 18 with fail
  go_region
  go_wp2
  · go_ret
    subst_vars
    exact ⟨_, rfl, HL3.out, gw3, rfl⟩
  · go_ret
    exact ⟨_, rfl, HL3.out, gw3, rfl⟩

theorem replace_is {w : World} {v vb : Value} {L K : List (Int × Int)} (h : Lst w 0 v L) (hk : Lst w 0 vb K) (hne : ∀ g, v.ownBlock = some g → vb.ownBlock ≠ some g) (i : Nat) (hi : i < L.length) (hl : L.length ≤ 1000) (hl2 : K.length ≤ 1000) (j : Nat) (hj : i + 1 = j) :
    Calls Tryz.prog 136 #[v, .int .i64 i, .int .i64 j, vb] w fun e w' => ∃ v', e = .returned v' ∧ Lst w' 0 v' (L.take i ++ (K ++ L.drop j)) ∧ w.grownBy w' v.ownBlock ∧ (v'.ownBlock = v.ownBlock ∨ ∀ g, v'.ownBlock = some g → w.heap.size ≤ g) := by
  obtain ⟨g, cap, rfl⟩ := h.shape rfl (by omega)
  have hcap : L.length ≤ cap := by
    rcases h.form with ⟨e, _⟩ | ⟨_, _, e, hc, _⟩
    · cases e
    · simp at e; omega
  -- what comes in
  have hin : ∃ ox c, vb = .slice ox K.length c ∧ (ox = none → K.length = 0) ∧ (∀ ad, ox = some ad → Row w ad K) ∧ (0 < K.length → ∃ b, ox = some ⟨b, 0, none⟩ ∧ g ≠ b) := by
    rcases hk.form with ⟨rfl, rfl⟩ | ⟨b, c, rfl, _, _, _, _, hr⟩
    · exact ⟨none, 0, rfl, fun _ => rfl, fun ad e => (nomatch e), fun e => by simp at e⟩
    · refine ⟨some ⟨b, 0, none⟩, c, rfl, fun e => (nomatch e), fun ad e => by cases e; exact hr, fun _ => ⟨b, rfl, fun e => hne g rfl (by rw [e]; rfl)⟩⟩
  obtain ⟨ox, c, rfl, hno, hrow, hb⟩ := hin
  by_cases e1 : j = L.length
  · have hd : L.drop j = [] := List.drop_eq_nil_of_le (by omega)
    rw [hd, List.append_nil]
    subst e1
    by_cases hm : K.length = 0
    · have hK : K = [] := List.eq_nil_of_length_eq_zero hm
      subst hK
      rw [List.append_nil]
      refine (replace_end0 w 0 g _ cap i c ox L (hideIt rfl) hl (hideIt h) hj hcap).mono ?_
      rintro _ w1 ⟨v', rfl, l1, g1, o1⟩
      exact ⟨v', rfl, l1, g1, .inl o1⟩
    · refine (replace_end w 0 g _ cap i _ c ox L K (hideIt rfl) hl (hideIt h) hj (hideIt (Nat.zero_le _)) (hideIt rfl) (by omega) hl2 (hideIt hno) (hideIt hrow) hcap).mono ?_
      rintro _ w1 ⟨v', rfl, l1, g1, o1⟩
      refine ⟨v', rfl, l1, g1, ?_⟩
      rcases o1 with o1 | o1
      · exact .inl o1
      · exact .inr (fun g' e => by rw [o1] at e; cases e; exact Nat.le_refl _)
  · have hjn : j < L.length := by omega
    by_cases hm : K.length = 0
    · have hK : K = [] := List.eq_nil_of_length_eq_zero hm
      subst hK
      rw [List.nil_append]
      refine (replace_none w 0 g _ cap i j c _ ox L (hideIt rfl) hl (hideIt h) hj hjn _ rfl rfl).mono ?_
      rintro _ w1 ⟨v', rfl, l1, g1, o1⟩
      exact ⟨v', rfl, l1, g1, .inl o1⟩
    · obtain ⟨b, rfl, hgb⟩ := hb (by omega)
      by_cases hm1 : K.length = 1
      · rw [hm1] at hk ⊢
        refine (replace_one w 0 g b _ cap i j c L K (hideIt rfl) hl (hideIt h) hj hjn (hideIt hm1) (hideIt hk) hgb _ rfl).mono ?_
        rintro _ w1 ⟨v', rfl, l1, g1, o1⟩
        exact ⟨v', rfl, l1, g1, .inl o1⟩
      · by_cases hroom : i + K.length + (L.length - j) ≤ cap
        · refine (replace_wide w 0 g b _ cap i j _ c _ _ L K (hideIt rfl) hl (hideIt h) hj hjn (hideIt rfl) (by omega) hl2 (hideIt hk) hgb rfl _ rfl rfl hroom).mono ?_
          rintro _ w1 ⟨v', rfl, l1, g1, o1⟩
          exact ⟨v', rfl, l1, g1, .inl o1⟩
        · refine (replace_grow w 0 g b _ cap i j _ c _ _ L K (hideIt rfl) hl (hideIt h) hj hjn (hideIt (Nat.zero_le _)) (hideIt rfl) (by omega) hl2 (hideIt hk) rfl _ rfl rfl (by omega)).mono ?_
          rintro _ w1 ⟨v', G, rfl, l1, g1, o1, hG⟩
          exact ⟨v', rfl, l1, gbAny g1 _, .inr (fun g' e => by rw [o1] at e; cases e; exact hG)⟩

end T9
end Go.Proofs.YtdnoidnpiaadaaaGreat
