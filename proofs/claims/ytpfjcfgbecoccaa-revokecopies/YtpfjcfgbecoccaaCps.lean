/-
  COPIES OF ONE CAPABILITY, PLAINLY: a node of sixteen slots, the first ones full, all come of the first (RevokeCopies). Speaks of no function of the program but donjonlaw11's over.
-/
import Derived.Test.YtpfjcfgbecoccaaWkw
import Derived.Test.YtpfjcfgbecoccaaRsm
namespace Go.Proofs.Ytpfjcfgbecoccaa
set_option maxRecDepth 10000
set_option linter.unusedVariables false
namespace M
abbrev e0 : C := ⟨4, 7, 7, 0, 0, 0⟩
/-- So many copies. -/
structure Cq (S : St) (f : T9.Fo) (n : Nat) : Prop where
  i : Inv S f
  cap : ∀ s, gc S s = if s.1 = 0 ∧ 0 ≤ s.2 ∧ s.2 < n then e0 else C.zero
  th : ∀ j : Int, 0 ≤ j → j < 16 → M.th S (0, j) = true
  form : ∃ bb oo d, f = T9.Fo.node bb oo (0, 0) d .nil
  len : f.len = n
def C1 : St := plaS (addS (fun _ => none) 0 4) (0, 0) e0
def g1 : T9.Fo := plaF (addS (fun _ => none) 0 4) .nil (0, 0) e0
theorem p1 : plaE (addS (fun _ => none) 0 4) (0, 0) e0 = 0 := by decide +kernel
theorem thq (j : Int) (h0 : 0 ≤ j) (h1 : j < 16) : th (addS (fun _ => none) 0 4) (0, j) = true := by
  have hr : j = 0 ∨ j = 1 ∨ j = 2 ∨ j = 3 ∨ j = 4 ∨ j = 5 ∨ j = 6 ∨ j = 7 ∨ j = 8 ∨ j = 9 ∨ j = 10 ∨ j = 11 ∨ j = 12 ∨ j = 13 ∨ j = 14 ∨ j = 15 := by omega
  rcases hr with h | h | h | h | h | h | h | h | h | h | h | h | h | h | h | h <;> (subst h; decide +kernel)
theorem Iq : Inv (addS (fun _ => none) 0 4) .nil := Inv.none.same (fun x => gc_add _ _ _ x)
theorem Cq.start : Cq C1 g1 1 := by
  have e : C1 = up (addS (fun _ => none) 0 4) (0, 0) e0 := putS_up p1
  refine ⟨Iq.pla (0, 0) (by decide) (by decide), fun s => ?_, fun j h0 h1 => ?_, ⟨0, 0, .nil, by kernel_rfl⟩, by kernel_rfl⟩
  · rw [e, gc_up _ (thq 0 (by omega) (by omega)), gc_add]
    have : gc (fun _ => none) s = C.zero := rfl
    rw [this]
    obtain ⟨a, b⟩ := s
    by_cases h : (a, b) = ((0, 0) : Int × Int)
    · rw [if_pos h]; simp only [Prod.mk.injEq] at h; rw [if_pos (by simp only; omega)]
    · rw [if_neg h, if_neg (fun k => h (by simp only at k; exact Prod.ext k.1 (by show b = 0; omega)))]
  · rw [e, th_up]; exact thq j h0 h1
theorem drv0 : drv e0 7 0 0 0 = (e0, 0) := by kernel_rfl
theorem Cq.full {S : St} {f : T9.Fo} {n : Nat} (h : Cq S f n) {j : Nat} (hj : j < n) : gc S (0, (j : Int)) = e0 := by rw [h.cap, if_pos ⟨rfl, by show (0 : Int) ≤ j; omega, by show (j : Int) < n; omega⟩]
theorem Cq.copE {S : St} {f : T9.Fo} {n i : Nat} (h : Cq S f n) (hi : i < n) (hn : n < 16) : M.endE S (0, (i : Int)) (0, (n : Int)) = 0 ∧ M.copE S (0, (i : Int)) (0, (n : Int)) 7 = 0 := by
  have g := h.full hi
  have h1 : srcE S (0, (i : Int)) = 0 := srcE_yes (by rw [g]; decide)
  have h2 : plcE S (0, (n : Int)) = 0 := plcE_yes (h.th n (by omega) (by omega)) (by rw [h.cap, if_neg (fun k => by have := k.2.2; simp only at this; omega)])
  have h3 : M.endE S (0, (i : Int)) (0, (n : Int)) = 0 := by unfold endE; rw [if_pos h1]; exact h2
  refine ⟨h3, ?_⟩
  unfold M.copE minE
  rw [if_pos h3, g]
  show (drv e0 7 0 0 0).2 = 0
  rw [drv0]
theorem Cq.next {S : St} {f : T9.Fo} {n i : Nat} (h : Cq S f n) (N : T9.Good f) (hi : i < n) (hn : n < 16) : Cq (copS S (0, (i : Int)) (0, (n : Int)) 7) (copF S f (0, (i : Int)) (0, (n : Int)) 7) (n + 1) := by
  obtain ⟨h3, h4⟩ := h.copE hi hn
  have g := h.full hi
  have hS : copS S (0, (i : Int)) (0, (n : Int)) 7 = up S (0, (n : Int)) e0 := by
    unfold copS minS
    have h4' : minE S (0, (i : Int)) (0, (n : Int)) 7 0 (gc S (0, (i : Int))).g (gc S (0, (i : Int))).n = 0 := h4
    rw [if_pos h4', g]
    show up S _ (drv e0 7 0 0 0).1 = _
    rw [drv0]
  have hF : copF S f (0, (i : Int)) (0, (n : Int)) 7 = T9.Fo.add (0, (i : Int)) (0, (n : Int)) f := by
    unfold copF minF
    have h4' : minE S (0, (i : Int)) (0, (n : Int)) 7 0 (gc S (0, (i : Int))).g (gc S (0, (i : Int))).n = 0 := h4
    rw [if_pos h4']
    unfold T9.Fo.childF
    rw [h.i.has (by rw [g]; decide), h.i.hasnt (by rw [h.cap, if_neg (fun k => by have := k.2.2; simp only at this; omega)])]
    rfl
  have hth : M.th S (0, (n : Int)) = true := h.th n (by omega) (by omega)
  refine ⟨h.i.cop _ _ _, fun s => ?_, fun j h0 h1 => ?_, ?_, ?_⟩
  · rw [hS, gc_up _ hth, h.cap]
    obtain ⟨a, b⟩ := s
    simp only [Prod.mk.injEq]
    by_cases e : a = 0 ∧ b = (n : Int)
    · rw [if_pos e, if_pos (by omega)]
    · rw [if_neg e]
      by_cases e2 : a = 0 ∧ 0 ≤ b ∧ b < (n : Int)
      · rw [if_pos e2, if_pos (by omega)]
      · rw [if_neg e2, if_neg (by omega)]
  · rw [hS, th_up]; exact h.th j h0 h1
  · obtain ⟨bb, oo, d, rfl⟩ := h.form
    rw [hF]
    show ∃ bb' oo' d', (if ((0, 0) : Int × Int) = (0, (i : Int)) then T9.Fo.node bb oo (0, 0) (T9.Fo.app d (T9.Fo.one (0, (n : Int)))) T9.Fo.nil else T9.Fo.node bb oo (0, 0) (T9.Fo.add (0, (i : Int)) (0, (n : Int)) d) (T9.Fo.add (0, (i : Int)) (0, (n : Int)) T9.Fo.nil)) = T9.Fo.node bb' oo' (0, 0) d' T9.Fo.nil
    split
    · exact ⟨bb, oo, _, rfl⟩
    · exact ⟨bb, oo, _, rfl⟩
  · rw [hF]
    show (T9.Fo.add (0, (i : Int)) (0, (n : Int)) f).pre.length = n + 1
    rw [T9.Fo.len_add N.nd ((h.i.inv _).2 (by rw [g]; decide))]
    have := h.len
    unfold T9.Fo.len at this
    omega
theorem node_kin (bb oo : Nat) (a : Int × Int) (d r : T9.Fo) : (T9.Fo.node bb oo a d r).kin a = d.pre := by
  unfold T9.Fo.kin
  show (match (if a = a then some d else _) with | some d => d.pre | none => []) = _
  rw [if_pos rfl]
theorem node_pre (bb oo : Nat) (a : Int × Int) (d r : T9.Fo) : (T9.Fo.node bb oo a d r).pre = a :: (d.pre ++ r.pre) := rfl
/-- What is left of them: the first, and so many that come of it. -/
structure Lq (S : St) (f : T9.Fo) (r : Nat) : Prop where
  i : Inv S f
  z : gc S (0, 0) = e0
  all : ∀ s, (gc S s).k ≠ 0 → gc S s = e0 ∧ (s = (0, 0) ∨ s ∈ f.kin (0, 0))
  kin : (f.kin (0, 0)).length = r
  len : f.len ≤ 16
theorem Cq.left {S : St} {f : T9.Fo} {n : Nat} (h : Cq S f n) (hn : 1 ≤ n) (hm : n ≤ 16) : Lq S f (n - 1) := by
  have hl := h.len
  obtain ⟨bb, oo, d, rfl⟩ := h.form
  have hp : (T9.Fo.node bb oo (0, 0) d T9.Fo.nil).pre = (0, 0) :: d.pre := by rw [node_pre]; show _ :: (d.pre ++ []) = _; rw [List.append_nil]
  refine ⟨h.i, h.full (j := 0) (by omega), fun s hs => ⟨?_, ?_⟩, ?_, by omega⟩
  · rw [h.cap] at hs ⊢
    split at hs
    · rename_i e; rw [if_pos e]
    · exact absurd rfl hs
  · have := (h.i.inv s).2 hs
    rw [hp] at this
    rw [node_kin]
    exact List.mem_cons.1 this
  · rw [node_kin]
    unfold T9.Fo.len at hl
    rw [hp] at hl
    simp at hl; omega
theorem Lq.sm {S : St} {f : T9.Fo} {r : Nat} (h : Lq S f r) : Sm S f (0, 0) := fun b hb => by
  have hk := (h.i.inv b).1 (kin_pre hb)
  rw [(h.all b hk).1, h.z]; exact ⟨rfl, rfl⟩
theorem Lq.cnt {S : St} {f : T9.Fo} {r : Nat} (h : Lq S f r) (G : Good S) (N : T9.Good f) : M.cnt S 4 7 = (M.full S).length ∧ (M.full S).length = r + 1 := by
  have hall : ∀ s ∈ M.full S, hit S 4 7 s = true := fun s hs => by
    have := (h.all s ((mem_full G s).1 hs)).1
    unfold hit
    have e : getC S s.1 s.2 = e0 := this
    rw [e]; rfl
  refine ⟨?_, ?_⟩
  · unfold M.cnt cntL
    rw [List.filter_eq_self.2 hall]
  · have hmem : ∀ s, s ∈ M.full S ↔ s ∈ (0, 0) :: f.kin (0, 0) := fun s => by
      rw [mem_full G s, List.mem_cons]
      constructor
      · exact fun k => (h.all s k).2
      · rintro (rfl | k)
        · rw [h.z]; decide
        · exact (h.i.inv s).1 (kin_pre k)
    have hnd : ((0, 0) :: f.kin (0, 0)).Nodup := List.nodup_cons.2 ⟨kin_self N.nd _, kin_nodup N.nd _⟩
    have l1 := subs_len _ _ (full_nodup S) (fun y hy => (hmem y).1 hy)
    have l2 := subs_len _ _ hnd (fun y hy => (hmem y).2 hy)
    have hk := h.kin
    simp only [List.length_cons] at l1 l2
    omega
theorem Lq.fin {S : St} {f : T9.Fo} {r : Nat} (h : Lq S f r) (G : Good S) (N : T9.Good f) : M.fin S (0, 0) = decide (r = 0) := by
  obtain ⟨h1, h2⟩ := h.cnt G N
  unfold M.fin
  rw [h.z]
  show (((M.cnt S 4 7 : Nat) : Int) == 1) = _
  rw [h1, h2]
  by_cases e : r = 0
  · subst e; rfl
  · simp [e]; omega
theorem Lq.face {S : St} {f : T9.Fo} {r : Nat} (h : Lq S f r) {l : Nat} (h1 : 1 ≤ l) (h2 : l ≤ 1000) : faceE S (0, 0) (l : Int) = 0 := by
  unfold faceE
  rw [if_pos (by omega)]
  exact srcE_yes (by rw [h.z]; decide)
theorem Lq.next {S : St} {f : T9.Fo} {r : Nat} (h : Lq S f r) (G : Good S) (N : T9.Good f) {l : Nat} {q : Bool} {y : X} (hr : revR S f (0, 0) (l : Int) = (q, y)) : q = decide (l < r) ∧ y.T = [] ∧ Lq y.S y.f (r - l) := by
  have ok : Ok ⟨S, f, l, []⟩ := ⟨h.i, G, N⟩
  unfold revR at hr
  rw [Int.toNat_natCast] at hr
  have hz : (gc S (0, 0)).k ≠ 0 := by rw [h.z]; decide
  have hkl := kin_len f (0, 0)
  have R := rvk_same (f.len + 1) ⟨S, f, l, []⟩ (0, 0) ok hz h.sm (by show (f.kin (0, 0)).length < f.len + 1; omega)
  have K := rvk_kp (f.len + 1) ⟨S, f, l, []⟩ (0, 0) ok
  rw [hr] at R K
  have hk := h.kin
  refine ⟨?_, R.T, K.ok.i, ?_, fun s hs => ?_, ?_, ?_⟩
  · rw [← hk]; exact R.q
  · have := R.gc (0, 0)
    rw [if_neg (fun k => kin_self N.nd (0, 0) (List.mem_of_mem_drop k))] at this
    exact this.trans h.z
  · have hgs := R.gc s
    simp only at hgs
    split at hgs
    · rw [hgs] at hs; exact absurd rfl hs
    · rename_i hd
      rw [hgs] at hs ⊢
      refine ⟨(h.all s hs).1, ?_⟩
      rcases (h.all s hs).2 with e | e
      · exact .inl e
      · refine .inr ?_
        rw [R.kin]
        simp only
        rw [← List.take_append_drop ((f.kin (0, 0)).length - l) (f.kin (0, 0)), List.mem_append] at e
        rcases e with e | e
        · exact e
        · exact absurd e hd
  · rw [R.kin]
    simp only [List.length_take]
    omega
  · have := K.len_le
    have h2 := h.len
    exact Nat.le_trans this h2
def ovr (m s : Nat) : Nat := if 0 < m ∧ m % s = 0 then 1 else 0
/-- How many calls it takes. -/
theorem calls_fin : ∀ (s : Fin 7) (m : Fin 16) (c : Fin 16), 1 ≤ s.val → (c.val = 0 ∨ c.val * s.val < m.val) → m.val ≤ (c.val + 1) * s.val → m.val / s.val + 1 = (c.val + 1) + (if 0 < m.val ∧ m.val % s.val = 0 then 1 else 0) := by decide +kernel
theorem calls_all {s m c : Nat} (hs : s < 7) (hm : m < 16) (hc : c < 16) (h1 : 1 ≤ s) (h2 : c = 0 ∨ c * s < m) (h3 : m ≤ (c + 1) * s) : m / s + 1 = (c + 1) + ovr m s := calls_fin ⟨s, hs⟩ ⟨m, hm⟩ ⟨c, hc⟩ h1 h2 h3
end M
end Go.Proofs.Ytpfjcfgbecoccaa
