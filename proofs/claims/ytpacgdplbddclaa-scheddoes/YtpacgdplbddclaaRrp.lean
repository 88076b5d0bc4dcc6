/-
  THE CONTRACT of the document's Ready: Drop.
-/
import Derived.Test.YtpacgdplbddclaaRrd
import Derived.Test.YtpacgdplbddclaaTwo
namespace Go.Proofs.Ytpacgdplbddclaa
set_option maxRecDepth 10000
open Go.RowKit
set_option linter.unusedVariables false

theorem del_listO (L : List (Int × Int)) (i : Nat) : L.take i ++ L.drop (i + 1) = L.eraseIdx i := (List.eraseIdx_eq_take_drop_succ L i).symm
/-- A new list out of the front of another one and of its end: two runs of append. -/
theorem twoRunsO {w : World} {B g n cap i x : Nat} {L : List (Int × Int)} (h : OL w B (.slice (some ⟨g, 0, none⟩) n cap) L) (hn : L.length = n) (hn2 : n ≤ 1000) (hi : i < n) (hx : x = i + 1) (hc : n ≤ cap) (ad : Addr) (c1 c2 : Nat) (had : x < cap → ad = (⟨g, x * 2, none⟩ : Addr)) :
    ∃ x1 m1 d1 w1 x2 m2 d2 w2, (Builtin.append_ #[64, 64] 64 #[.slice (some ⟨w.heap.size, 0, none⟩) 0 0, .slice (some ⟨g, 0, none⟩) i c1]).run Try.prog (w.alloc (.cells #[] 79)).drew = .ok (.slice x1 m1 d1) w1 ∧
      (Builtin.append_ #[64, 64] 64 #[.slice x1 m1 d1, .slice (some ad) (n - x) c2]).run Try.prog w1 = .ok (.slice x2 m2 d2) w2 ∧ w.grownBy w1 none ∧ OL w2 w.heap.size (.slice x2 m2 d2) (L.eraseIdx i) ∧ w.grownBy w2 none := by
  have G : w.grownBy (w.alloc (.cells #[] 79)).drew none := gbDrew (gbAlloc w (.cells #[] 79) none)
  have hE : OL (w.alloc (.cells #[] 79)).drew w.heap.size (.slice (some ⟨w.heap.size, 0, none⟩) 0 0) [] := Ls.kept (Ls.empty eO 79 2 w) (gbDrewN _ 1 none)
  obtain ⟨v1, w1, r1, l1, g1, _⟩ := run_append_o (w.alloc (.cells #[] 79)).drew w.heap.size (.slice (some ⟨w.heap.size, 0, none⟩) 0 0) [] hE 64 (some ⟨g, 0, none⟩) i c1 (L.take i) (by rw [List.length_take]; omega) (by simp) (by
    rintro ad' ⟨⟩ j u hu
    have := (h.kept G).row encO hn 0 (L.take i) (fun j => by
      rw [List.getElem?_take, Nat.zero_add]
      split
      · exact .inr rfl
      · exact .inl rfl) j u hu
    simpa using this) (by simp; omega) (by simp)
  have G1 : w.grownBy w1 none := gbNews (gbTrans (gbAny G _) g1) (fun k hk => by cases hk; exact Nat.le_refl _)
  obtain ⟨x1, d1, rfl, _⟩ := l1.arr
  obtain ⟨v2, w2, r2, l2, g2, _⟩ := run_append_o w1 w.heap.size _ ([] ++ L.take i) l1 64 (some ad) (n - x) c2 (L.drop x) (by rw [List.length_drop, hn]) (by simp) (by
    rintro ad' ⟨⟩ j u hu
    have hlt : 0 < (L.drop x).length := by
      have := (List.getElem?_eq_some_iff.1 hu).1
      rw [cl_len encO] at this
      omega
    rw [List.length_drop] at hlt
    obtain rfl := had (by omega)
    exact (h.kept G1).row encO hn x (L.drop x) (fun j => .inr (by rw [List.getElem?_drop])) j u hu) (by simp; omega) G1.size
  have G2 : w.grownBy w2 none := gbNews (gbTrans (gbAny G1 _) g2) (fun k hk => (l1.lt k hk).1)
  obtain ⟨x2, d2, rfl, _⟩ := l2.arr
  refine ⟨x1, _, d1, w1, x2, _, d2, w2, r1, r2, G1, ?_, G2⟩
  have e : [] ++ L.take i ++ L.drop x = L.eraseIdx i := by rw [List.nil_append, hx, del_listO]
  rw [e] at l2 ⊢
  exact l2
set_option maxHeartbeats 2000000 in
theorem rdrop_no {w : World} {q : Nat} {x : Option Addr} {n cap : Nat} {R : List (Int × Int)} (h : Hid (Rd w q x n cap R)) (hl : n ≤ 1000) (a : Int) (ha : Hid (a ∉ M.ids R)) :
    Calls Try.prog 35 #[.pointer (some ⟨q, 0, none⟩), .int .i64 a] w fun e w' => e = .returned (.bool false) ∧ w' = w := by
  have c0 := h.out.c0
  go_enter Try.func35, Try.ntmps35
  go_wp2
  go_loopg [5] (n + 1) (fun y i wr => ∃ c : Nat, c + y = n + 1 ∧ c ≤ n ∧ i = .int .i64 c ∧ wr = w)
  case atStart => exact ⟨0, by omega, by omega, rfl, rfl⟩
  case round =>
    obtain ⟨c, hc, hcj, rfl, rfl⟩ := hrel
    by_cases hlt : c < n
    · have hlt' : (c : Int) < (n : Int) := by omega
      obtain ⟨⟨b, k⟩, hp⟩ : ∃ o, R[c]? = some o := ⟨_, List.getElem?_eq_getElem (by rw [h.out.len]; omega)⟩
      obtain ⟨g, rfl, e0, e1⟩ := h.out.el c _ hp
      simp only at e0 e1
      have hs : (b == a) = false := by simp; rintro rfl; exact ha.out (M.mem_ids.2 ⟨k, List.mem_of_getElem? hp⟩)
      clear hp
      go_wp2
      go_roundg (gk - 1)
      case rel => exact ⟨c + 1, by omega, by omega, by go_num, rfl⟩
      case measure => omega
    · have hlt' : ¬ (c : Int) < (n : Int) := by omega
      go_wp2
      go_ret
      exact ⟨rfl, rfl⟩
set_option maxHeartbeats 2000000 in
theorem rdrop_core {w : World} {O : Nat → Prop} {q g : Nat} {n cap : Nat} {R : List (Int × Int)} (h : Hid (Rd w q (some ⟨g, 0, none⟩) n cap R)) (hl : n ≤ 1000) (a : Int) (j x : Nat) (hj : Hid (∃ y, R[j]? = some (a, y))) (hf : Hid (∀ (i : Nat) (o : Int × Int), i < j → R[i]? = some o → o.1 ≠ a)) (hjn : j < n) (hq1 : ¬ q = w.heap.size) (hq2 : ¬ w.heap.size = q)
    (hxe : (j : Int) + 1 = (x : Int)) (hc : n ≤ cap) (hc2 : cap ≤ 9223372036854775807) (xb : Nat) (cb : Nat) (hxb : (x < cap ∧ xb = x * 2 ∧ cb = cap - x) ∨ (x = cap ∧ xb = 0 ∧ cb = 0)) (x1 : Option Addr) (m1 d1 : Nat) (w1 : World) (x2 : Option Addr) (m2 d2 : Nat) (w2 : World)
    (r1 : (Builtin.append_ #[64, 64] 64 #[.slice (some ⟨w.heap.size, 0, none⟩) 0 0, .slice (some ⟨g, 0, none⟩) j cap]).run Try.prog (w.alloc (.cells #[] 79)).drew = .ok (.slice x1 m1 d1) w1)
    (r2 : (Builtin.append_ #[64, 64] 64 #[.slice x1 m1 d1, .slice (some ⟨g, xb, none⟩) (n - x) cb]).run Try.prog w1 = .ok (.slice x2 m2 d2) w2)
    (q1 : w1.cell? ⟨q, 0, none⟩ = some (.slice (some ⟨g, 0, none⟩) n cap)) (b1 : w2.cell? ⟨q, 0, none⟩ = some (.slice (some ⟨g, 0, none⟩) n cap)) (b2 : w2.frozen? ⟨q, 0, none⟩ = false)
    (b3 : Hid (DA (w2.setCell ⟨q, 0, none⟩ (.slice x2 m2 d2)) (wide O w (w2.setCell ⟨q, 0, none⟩ (.slice x2 m2 d2))) q (R.eraseIdx j) ∧ Fr O w (w2.setCell ⟨q, 0, none⟩ (.slice x2 m2 d2)))) :
    Calls Try.prog 35 #[.pointer (some ⟨q, 0, none⟩), .int .i64 a] w fun e w' => e = .returned (.bool true) ∧ DA w' (wide O w w') q (R.eraseIdx j) ∧ Fr O w w' := by
  have c0 := h.out.c0
  have hxw : IntKind.i64.wrap (x : Int) = (x : Int) := wI rfl (by omega)
  have h1 : (x : Int) ≤ (n : Int) := by omega
  have h2 : (j : Int) ≤ (cap : Int) := by omega
  have h3 : (j : Int) ≤ (n : Int) := by omega
  have h4 : (x : Int) ≤ (cap : Int) := by omega
  have h5 : (n : Int) ≤ (cap : Int) := by omega
  have hxn : x ≤ n := by omega
  go_enter Try.func35, Try.ntmps35
  go_wp2
  go_loopg [5] (j + 1) (fun y i wr => ∃ c : Nat, c + y = j + 1 ∧ c ≤ j ∧ i = .int .i64 c ∧ wr = w)
  case atStart => exact ⟨0, by omega, by omega, rfl, rfl⟩
  case round =>
    obtain ⟨c, hc, hcj, rfl, rfl⟩ := hrel
    have hlt' : (c : Int) < (n : Int) := by omega
    obtain ⟨⟨b, k⟩, hp⟩ : ∃ o, R[c]? = some o := ⟨_, List.getElem?_eq_getElem (by rw [h.out.len]; omega)⟩
    obtain ⟨g', eg, e0, e1⟩ := h.out.el c _ hp
    cases eg
    simp only at e0 e1
    by_cases ej : c = j
    · subst ej
      obtain rfl : b = a := by obtain ⟨y, hy⟩ := hj.out; rw [hp] at hy; simp at hy; exact hy.1
      clear hp hc hcj
      have ca := (gbAlloc wr (.cells #[] 79) none).cell c0 (by simp)
      rcases hxb with ⟨hxc, rfl, rfl⟩ | ⟨hxc, rfl, rfl⟩
      · have hc3 : ¬ cap = x := by omega
        go_upto_region 5 with fail
        clear e0 e1
        go_region_law (first | (refine step_append_run rfl (.tmp 33) (.tmp 40) rfl (.slice x1 m1 d1) (.slice (some ⟨g, x * 2, none⟩) (n - x) (cap - x)) (by simp [Act.eval, Act.put]) (by simp [Act.eval, Act.put]; done) (.slice x2 m2 d2) w2 r2 ?_) | (refine step_append_run rfl (.tmp 26) (.tmp 32) rfl (.slice (some ⟨wr.heap.size, 0, none⟩) 0 0) (.slice (some ⟨g, 0, none⟩) c cap) (by simp [Act.eval, Act.put]) (by simp [Act.eval, Act.put]) (.slice x1 m1 d1) w1 r1 ?_))
        all_goals (go_wp2; go_ret; exact ⟨rfl, b3.out⟩)
      · subst hxc
        go_upto_region 5 with fail
        clear e0 e1
        go_region_law (first | (refine step_append_run rfl (.tmp 33) (.tmp 40) rfl (.slice x1 m1 d1) (.slice (some ⟨g, 0, none⟩) (n - x) 0) (by simp [Act.eval, Act.put]) (by simp [Act.eval, Act.put]; omega) (.slice x2 m2 d2) w2 r2 ?_) | (refine step_append_run rfl (.tmp 26) (.tmp 32) rfl (.slice (some ⟨wr.heap.size, 0, none⟩) 0 0) (.slice (some ⟨g, 0, none⟩) c x) (by simp [Act.eval, Act.put]) (by simp [Act.eval, Act.put]) (.slice x1 m1 d1) w1 r1 ?_))
        all_goals (go_wp2; go_ret; exact ⟨rfl, b3.out⟩)
    · have hs : (b == a) = false := by simp; exact hf.out c _ (by omega) hp
      clear hp hxb r1 r2 q1 b1 b2 hxe
      go_wp2
      go_roundg (gk - 1)
      case rel => exact ⟨c + 1, by omega, by omega, by go_num, rfl⟩
      case measure => omega
theorem M.rd_erase {R : List (Int × Int)} {a : Int} (h : (M.ids R).Nodup) : ∀ {j : Nat} {y : Int}, R[j]? = some (a, y) → R.eraseIdx j = M.rd R a := by
  induction R with
  | nil => intro j y hj; simp at hj
  | cons o R ih =>
    intro j y hj
    unfold M.ids at h
    rw [List.map_cons, List.nodup_cons] at h
    cases j with
    | zero =>
      simp at hj
      subst hj
      have : a ∉ M.ids R := h.1
      have e := M.rd_not this
      unfold M.rd at e ⊢
      simp [e]
    | succ j =>
      have hj' : R[j]? = some (a, y) := by simpa using hj
      have hne : o.1 ≠ a := fun e => h.1 (by rw [e]; exact List.mem_map.2 ⟨(a, y), List.mem_of_getElem? hj', rfl⟩)
      have := ih h.2 hj'
      unfold M.rd at this ⊢
      simp [hne, this]
theorem rdrop_is {w : World} {O : Nat → Prop} {q : Nat} {R : List (Int × Int)} (h : DA w O q R) (hg : M.Gd R) (hl : R.length ≤ 1000) (a : Int) (b : Bool) (hb : (M.ids R).contains a = b) :
    Calls Try.prog 35 #[.pointer (some ⟨q, 0, none⟩), .int .i64 a] w fun e w' => e = .returned (.bool b) ∧ DA w' (wide O w w') q (M.rd R a) ∧ Fr O w w' := by
  subst hb
  by_cases ha : a ∈ M.ids R
  · obtain ⟨j, y, h3, h4⟩ := M.ids_at ha
    have hjn := (List.getElem?_eq_some_iff.1 h3).1
    obtain ⟨v, c1, l1, _⟩ := h.ex
    obtain ⟨g, cap, rfl, hc, _, _, hc2⟩ := l1.has rfl (by omega)
    have hr : Rd w q (some ⟨g, 0, none⟩) R.length cap R := ⟨c1, rfl, fun i o ho => ⟨g, rfl, OL.at l1 rfl i o ho⟩⟩
    have hp := h.lt
    by_cases hxc : j + 1 < cap
    · obtain ⟨x1, m1, d1, w1, x2, m2, d2, w2, r1, r2, G1, l2, G2⟩ := twoRunsO l1 rfl hl hjn rfl hc ⟨g, (j + 1) * 2, none⟩ cap (cap - (j + 1)) (fun _ => rfl)
      obtain ⟨b1, b2, b3⟩ := h.storeNew G2 l2
      rw [c1] at b1
      refine (rdrop_core (hideIt hr) hl a j (j + 1) (hideIt ⟨y, h3⟩) (hideIt h4) hjn (by omega) (by omega) (by omega) hc hc2 _ _ (.inl ⟨hxc, rfl, rfl⟩) x1 m1 d1 w1 x2 m2 d2 w2 r1 r2 (G1.cell c1 (by simp)) b1 b2 (hideIt b3)).mono ?_
      rintro e w3 ⟨rfl, k⟩
      rw [M.rd_erase hg.nd h3] at k
      exact ⟨by simp [ha], k⟩
    · obtain ⟨x1, m1, d1, w1, x2, m2, d2, w2, r1, r2, G1, l2, G2⟩ := twoRunsO l1 rfl hl hjn rfl hc ⟨g, 0, none⟩ cap 0 (fun e => absurd e hxc)
      obtain ⟨b1, b2, b3⟩ := h.storeNew G2 l2
      rw [c1] at b1
      refine (rdrop_core (hideIt hr) hl a j (j + 1) (hideIt ⟨y, h3⟩) (hideIt h4) hjn (by omega) (by omega) (by omega) hc hc2 _ _ (.inr ⟨by omega, rfl, rfl⟩) x1 m1 d1 w1 x2 m2 d2 w2 r1 r2 (G1.cell c1 (by simp)) b1 b2 (hideIt b3)).mono ?_
      rintro e w3 ⟨rfl, k⟩
      rw [M.rd_erase hg.nd h3] at k
      exact ⟨by simp [ha], k⟩
  · obtain ⟨x, n, cap, hr⟩ := h.rd
    refine (rdrop_no (hideIt hr) (by rw [← hr.len]; exact hl) a (hideIt ha)).mono ?_
    rintro e w1 ⟨rfl, rfl⟩
    exact ⟨by simp [ha], by rw [M.rd_not ha]; exact h.wider _ _, Fr.refl _ _⟩
end Go.Proofs.Ytpacgdplbddclaa
