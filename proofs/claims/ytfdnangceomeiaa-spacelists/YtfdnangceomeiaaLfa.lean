/-
  PLAIN FACTS for SpaceLists: a directory with three tables; what is listed before and behind one Map. Two mappings held against one another.
-/
import Derived.Test.YtfdnangceomeiaaSfa
namespace Go.Proofs.Ytfdnangceomeiaa
set_option maxRecDepth 10000
open Go.RowKit
set_option linter.unusedVariables false

/-! ### Two mappings held against one another -/
def M.eq3 (a0 a1 : Int) (a2 : Bool) (b0 b1 : Int) (b2 : Bool) : Bool := a0 == b0 && a1 == b1 && a2 == b2
theorem M.eq3_refl (a0 a1 : Int) (a2 : Bool) : M.eq3 a0 a1 a2 a0 a1 a2 = true := by simp [M.eq3]
theorem run_equal_m (w : World) (a0 a1 b0 b1 : Int) (a2 b2 : Bool) : (Op.equalIn 10000 52 (.agg #[.int .i64 a0, .int .i64 a1, .bool a2]) (.agg #[.int .i64 b0, .int .i64 b1, .bool b2])).run Try.prog w = .ok (M.eq3 a0 a1 a2 b0 b1 b2) w := by
  rw [run_equalIn_agg w 9999 52 _ _ (by kernel_rfl) (by kernel_rfl)]
  simp only [go_sem, Program.fieldsOf, Try.underlying52]
  by_cases h0 : a0 = b0
  · by_cases h1 : a1 = b1
    · by_cases h2 : a2 = b2
      all_goals simp [M.eq3, go_sem, Try.underlying3, Try.underlying4, h0, h1, h2]
    · simp [M.eq3, go_sem, Try.underlying3, Try.underlying4, h0, h1]
  · simp [M.eq3, go_sem, Try.underlying3, Try.underlying4, h0]
theorem run_neq_m (w : World) (a0 a1 b0 b1 : Int) (a2 b2 : Bool) : (binOp .neq 52 (.agg #[.int .i64 a0, .int .i64 a1, .bool a2]) (.agg #[.int .i64 b0, .int .i64 b1, .bool b2])).run Try.prog w = .ok (.bool (!M.eq3 a0 a1 a2 b0 b1 b2)) w := by
  rw [run_neq_struct, run_equal_m]; rfl
theorem eqGuard_m : Try.prog.eqGuardType Try.prog.depth 52 = false := by kernel_rfl

/-! ### The law's words -/
/-- The words behind i tables. -/
def M.ti (i : Nat) : Nat → Nat := fun k => if k < i then M.wd (k + 1) false else 0
theorem M.ti_zero : M.ti 0 = W.F0 := by funext k; unfold M.ti; rw [if_neg (by omega)]
theorem M.ti_succ (i : Nat) : M.st (M.ti i) i (M.wd (i + 1) false) = M.ti (i + 1) := by
  funext k
  unfold M.st M.ti
  by_cases c : k = i
  · subst c; rw [if_pos rfl, if_pos (by omega)]
  · rw [if_neg c]
    by_cases d : k < i
    · rw [if_pos d, if_pos (by omega)]
    · rw [if_neg d, if_neg (by omega)]
theorem M.ti_table {i : Nat} (h : i < 3) : M.chg (M.ti i) (M.dp 512 0 ((256 * i : Nat) : Int) (M.al 512 ((16 + 16 * i : Nat) : Int))) (M.lay ⟨true, false, ((16 + 16 * i : Nat) : Int)⟩) = (0, M.ti (i + 1)) := by
  have e := M.table_mk (n := 512) (F := M.ti i) (dir := 0) (a := ((256 * i : Nat) : Int)) (t := ((16 + 16 * i : Nat) : Int)) (D := 0) (A := 256 * i) (P := i + 1) (by omega) rfl rfl (by omega) (by omega) (by omega) (by omega) (by unfold M.ti; rw [if_neg (by omega)])
  have e2 : 16 * 0 + 256 * i / 256 = i := by omega
  rw [e2, M.ti_succ] at e
  exact e
/-- Three tables, and frames behind them. -/
structure Lf (F : Nat → Nat) : Prop where
  dir : ∀ i, i < 3 → F i = M.wd (i + 1) false
  no : ∀ i, 3 ≤ i → i < 16 → F i = 0
  tab : ∀ i, 16 ≤ i → i < 64 → F i = 0 ∨ ∃ Q o, F i = M.wd Q o ∧ 4 ≤ Q ∧ Q < 24
theorem Lf.begin : Lf (M.ti 3) :=
  ⟨fun i hi => by unfold M.ti; rw [if_pos hi], fun i hi _ => by unfold M.ti; rw [if_neg (by omega)], fun i hi _ => .inl (by unfold M.ti; rw [if_neg (by omega)])⟩
theorem Lf.st {F : Nat → Nat} {x Q : Nat} {o : Bool} (h : Lf F) (hx : 16 ≤ x) (hQ : 4 ≤ Q) (hQ' : Q < 24) : Lf (M.st F x (M.wd Q o)) :=
  ⟨fun i hi => by rw [M.st_ne (by omega)]; exact h.dir i hi, fun i h1 h2 => by rw [M.st_ne (by omega)]; exact h.no i h1 h2, fun i h1 h2 => by
    by_cases c : i = x
    · subst c; rw [M.st_at]; exact .inr ⟨Q, o, rfl, hQ, hQ'⟩
    · rw [M.st_ne c]; exact h.tab i h1 h2⟩
theorem Lf.up {F : Nat → Nat} {A g : Nat} (h : Lf F) (hg : A / 16 = g) (hA : A < 768) : M.up (F (16 * 0 + A / 256)) = (⟨true, false, ((16 * (1 + A / 256) : Nat) : Int)⟩, 0) ∧ 16 * (1 + A / 256) + A / 16 % 16 = 16 + g := by
  refine ⟨?_, by omega⟩
  rw [Nat.mul_zero, Nat.zero_add, h.dir _ (by omega), Nat.add_comm 1]
  exact M.wd_up false (by omega)
/-- Map: where nothing is. -/
theorem Lf.map_yes {F : Nat → Nat} {A g f Q : Nat} {o : Bool} (h : Lf F) (hg : A / 16 = g) (hA : A < 768) (hf : f = 16 * Q) (hQ' : Q < 24) (h0 : F (16 + g) = 0) :
    M.chg F (M.tp 512 F 0 (A : Int) (M.al 512 (f : Int))) (M.lay ⟨true, o, (f : Int)⟩) = (0, M.st F (16 + g) (M.wd Q o)) := by
  obtain ⟨u, e⟩ := h.up hg hA
  subst hf
  have := M.map_mk (n := 512) (F := F) (dir := 0) (a := (A : Int)) (t := ((16 * Q : Nat) : Int)) (D := 0) (A := A) (P := 1 + A / 256) (Q := Q) (o := o) (by omega) rfl rfl rfl (by omega) (by omega) (by omega) u (by omega) (by rw [e]; exact h0)
  rwa [e] at this
/-- Map: where something is. -/
theorem Lf.map_no {F : Nat → Nat} {A g f Q : Nat} {o : Bool} (h : Lf F) (hg : A / 16 = g) (hA : A < 768) (hf : f = 16 * Q) (hQ' : Q < 24) (h0 : F (16 + g) ≠ 0) :
    M.chg F (M.tp 512 F 0 (A : Int) (M.al 512 (f : Int))) (M.lay ⟨true, o, (f : Int)⟩) = (4, F) := by
  obtain ⟨u, e⟩ := h.up hg hA
  subst hf
  exact M.map_twice (n := 512) (F := F) (dir := 0) (a := (A : Int)) (t := ((16 * Q : Nat) : Int)) (D := 0) (A := A) (P := 1 + A / 256) (Q := Q) (o := o) rfl rfl rfl (by omega) (by omega) (by omega) u (by omega) (by rw [e]; exact h0)
theorem Lf.map {F : Nat → Nat} {A f Q : Nat} (h : Lf F) (hA : A < 768) (hf : f = 16 * Q) (hQ : 4 ≤ Q) (hQ' : Q < 24) (o : Bool) :
    ∃ k G, M.chg F (M.tp 512 F 0 (A : Int) (M.al 512 (f : Int))) (M.lay ⟨true, o, (f : Int)⟩) = (k, G) ∧ Lf G := by
  by_cases c : F (16 + A / 16) = 0
  · exact ⟨_, _, h.map_yes rfl hA hf hQ' c, h.st (by omega) hQ hQ'⟩
  · exact ⟨_, _, h.map_no rfl hA hf hQ' c, h⟩
/-- Unmap, of what was mapped where nothing was. -/
theorem Lf.back {F : Nat → Nat} {A g Q : Nat} {o : Bool} (h : Lf F) (hg : A / 16 = g) (hA : A < 768) (h0 : F (16 + g) = 0) :
    M.chg (M.st F (16 + g) (M.wd Q o)) (M.tp 512 (M.st F (16 + g) (M.wd Q o)) 0 (A : Int) true) M.out = (0, F) := by
  obtain ⟨u, e⟩ := h.up hg hA
  have := M.unmap_mk (n := 512) (F := M.st F (16 + g) (M.wd Q o)) (dir := 0) (a := (A : Int)) (D := 0) (A := A) (P := 1 + A / 256) rfl rfl (by omega) (by omega) (by rw [M.st_ne (by omega)]; exact u) (by omega) (by rw [e, M.st_at]; exact M.wd_pos _ _)
  rwa [e, M.st_st, M.st_id h0] at this

/-! ### What is listed -/
theorem M.pe_fault2 {n : Nat} {F : Nat → Nat} {A D P : Nat} {f : Int} (hA : A < 4096) (hD : D % 16 = 0) (hD' : D + 16 ≤ n) (h1 : M.up (F (D + A / 256)) = (⟨true, false, ((16 * P : Nat) : Int)⟩, 0)) (hP : 16 * P + 16 ≤ n) (h2 : M.up (F (16 * P + A / 16 % 16)) = (E.zero, f)) : M.pe n F (D : Int) (A : Int) = (E.zero, 12) := by
  have c1 : ¬ M.isA (A : Int) = false := by simp [M.isA]; omega
  have c2 : ¬ ((D : Int) % 16 == 0 && M.th n (D : Int)) = false := by simp [M.th]; omega
  have k1 : ((D : Int) + (A : Int) / 256).toNat = D + A / 256 := by omega
  have k2 : (((16 * P : Nat) : Int) + (A : Int) / 16 % 16).toNat = 16 * P + A / 16 % 16 := by omega
  have k : M.lv n F (16 * P + A / 16 % 16) = (E.zero, false) := by
    unfold M.lv
    rw [h2]
    simp
  unfold M.pe
  rw [if_neg c1, if_neg c2, k1, M.lv_mk h1 hP]
  simp only
  rw [if_neg (by simp), k2, k, if_pos rfl]
theorem Lf.mp_yes {F : Nat → Nat} {p Q : Nat} {o : Bool} (h : Lf F) (hp : p < 48) (hF : F (16 + p) = M.wd Q o) (hQ : Q < 24) : M.mp 512 F 0 p = some ⟨p, ((16 * Q : Nat) : Int), o⟩ := by
  obtain ⟨u, e⟩ := h.up (A := 16 * p) (g := p) (by omega) (by omega)
  have := M.pe_mk (n := 512) (F := F) (A := 16 * p) (D := 0) (P := 1 + 16 * p / 256) (Q := Q) (v := o) (by omega) rfl (by omega) (by rw [Nat.mul_zero] at u; exact u) (by omega) (by rw [e, hF]; exact M.wd_up o (by omega)) (by omega)
  have t : M.pe 512 F 0 ((16 * p : Nat) : Int) = (⟨true, o, ((16 * Q : Nat) : Int)⟩, 0) := this
  unfold M.mp
  rw [t]
  rfl
theorem Lf.mp_none {F : Nat → Nat} {p : Nat} (h : Lf F) (hp : p < 48) (hF : F (16 + p) = 0) : M.mp 512 F 0 p = none := by
  obtain ⟨u, e⟩ := h.up (A := 16 * p) (g := p) (by omega) (by omega)
  have := M.pe_fault2 (n := 512) (F := F) (A := 16 * p) (D := 0) (P := 1 + 16 * p / 256) (f := 0) (by omega) rfl (by omega) (by rw [Nat.mul_zero] at u; exact u) (by omega) (by rw [e, hF]; exact M.up_zero)
  have t : M.pe 512 F 0 ((16 * p : Nat) : Int) = (E.zero, 12) := this
  unfold M.mp
  rw [t]
  rfl
theorem Lf.mp_far {F : Nat → Nat} {p : Nat} (h : Lf F) (hp : 48 ≤ p) (hp' : p < 256) : M.mp 512 F 0 p = none := by
  have := M.pe_fault (n := 512) (F := F) (A := 16 * p) (D := 0) (f := 0) (by omega) rfl (by omega) (by rw [h.no _ (by omega) (by omega)]; exact M.up_zero)
  have t : M.pe 512 F 0 ((16 * p : Nat) : Int) = (E.zero, 12) := this
  unfold M.mp
  rw [t]
  rfl
theorem Lf.mp_other {F : Nat → Nat} {p g Q : Nat} {o : Bool} (h : Lf F) (k : Lf (M.st F (16 + g) (M.wd Q o))) (hp : p < 256) (hg : p ≠ g) : M.mp 512 (M.st F (16 + g) (M.wd Q o)) 0 p = M.mp 512 F 0 p := by
  by_cases c : p < 48
  · have e : M.st F (16 + g) (M.wd Q o) (16 + p) = F (16 + p) := M.st_ne (by omega)
    rcases h.tab (16 + p) (by omega) (by omega) with h0 | ⟨Q', o', h0, _, hQ⟩
    · rw [h.mp_none c h0, k.mp_none c (e.trans h0)]
    · rw [h.mp_yes c h0 hQ, k.mp_yes c (e.trans h0) hQ]
  · rw [h.mp_far (by omega) hp, k.mp_far (by omega) hp]
theorem M.mp_page {n : Nat} {F : Nat → Nat} {dir : Int} {p : Nat} {k : K3} (h : M.mp n F dir p = some k) : k.p = p := by
  unfold M.mp at h
  split at h
  · simp only [Option.some.injEq] at h; rw [← h]
  · simp at h
theorem range_cut {g : Nat} (hg : g < 256) : ∃ a b : List Nat, List.range 256 = a ++ g :: b ∧ g ∉ a ∧ g ∉ b ∧ (∀ x ∈ a, x < 256) ∧ (∀ x ∈ b, x < 256) := by
  obtain ⟨a, b, e⟩ := List.append_of_mem (List.mem_range.2 hg)
  have n := List.nodup_range (n := 256)
  rw [e] at n
  rw [List.nodup_append] at n
  obtain ⟨_, n2, n3⟩ := n
  rw [List.nodup_cons] at n2
  refine ⟨a, b, e, fun h => n3 g h g (by simp) rfl, n2.1, fun x hx => ?_, fun x hx => ?_⟩
  · exact List.mem_range.1 (by rw [e]; simp [hx])
  · exact List.mem_range.1 (by rw [e]; simp [hx])
/-- The pages of a list are other ones. -/
def Off (g : Nat) (L : List K3) : Prop := ∀ (i : Nat) (k : K3), L[i]? = some k → ((k.p : Int) == (g : Int)) = false
theorem off_of {n : Nat} {F : Nat → Nat} {dir : Int} {g : Nat} {a : List Nat} (h : g ∉ a) : Off g (a.filterMap (M.mp n F dir)) := by
  intro i k hk
  have hm := List.mem_of_getElem? hk
  rw [List.mem_filterMap] at hm
  obtain ⟨p, hp, e⟩ := hm
  have := M.mp_page e
  simp only [beq_eq_false_iff_ne, ne_eq]
  intro e2
  exact h (by have : k.p = g := by omega
              have e3 : p = g := by omega
              rw [← e3]; exact hp)
theorem lsOk (F : Nat → Nat) : M.ls 512 F 0 = (M.ln 512 F 0 256, 0) := by
  unfold M.ls
  rw [if_neg (by decide)]
theorem fm_congr {α β : Type} {f g : α → Option β} : ∀ {l : List α}, (∀ x ∈ l, f x = g x) → l.filterMap f = l.filterMap g
  | [], _ => rfl
  | a :: l, h => by
    have ih := fm_congr (l := l) (fun x hx => h x (by simp [hx]))
    have ha := h a (by simp)
    cases e : g a
    · rw [List.filterMap_cons_none (ha.trans e), List.filterMap_cons_none e, ih]
    · rw [List.filterMap_cons_some (ha.trans e), List.filterMap_cons_some e, ih]
/-- Before and behind one Map where nothing was. -/
theorem Lf.list_yes {F : Nat → Nat} {g Q : Nat} {o : Bool} (h : Lf F) (hg : g < 48) (h0 : F (16 + g) = 0) (hQ : 4 ≤ Q) (hQ' : Q < 24) : ∃ A B : List K3, M.ls 512 F 0 = (A ++ B, 0) ∧ M.ls 512 (M.st F (16 + g) (M.wd Q o)) 0 = (A ++ (⟨g, ((16 * Q : Nat) : Int), o⟩ :: B), 0) ∧ Off g A ∧ Off g B := by
  obtain ⟨a, b, e, na, nb, la, lb⟩ := range_cut (g := g) (by omega)
  have k := h.st (x := 16 + g) (o := o) (by omega) hQ hQ'
  have ea : a.filterMap (M.mp 512 (M.st F (16 + g) (M.wd Q o)) 0) = a.filterMap (M.mp 512 F 0) := fm_congr fun x hx => h.mp_other k (la x hx) (fun e => na (e ▸ hx))
  have eb : b.filterMap (M.mp 512 (M.st F (16 + g) (M.wd Q o)) 0) = b.filterMap (M.mp 512 F 0) := fm_congr fun x hx => h.mp_other k (lb x hx) (fun e => nb (e ▸ hx))
  refine ⟨a.filterMap (M.mp 512 F 0), b.filterMap (M.mp 512 F 0), ?_, ?_, off_of na, off_of nb⟩
  · rw [lsOk, M.ln, e, List.filterMap_append, List.filterMap_cons_none (h.mp_none hg h0)]
  · rw [lsOk, M.ln, e, List.filterMap_append, List.filterMap_cons_some (k.mp_yes hg (M.st_at _ _ _) hQ'), ea, eb]
/-- Where something was, it is listed. -/
theorem Lf.list_no {F : Nat → Nat} {g : Nat} (h : Lf F) (hg : g < 48) (h0 : F (16 + g) ≠ 0) : ∃ (A B : List K3) (x : Int) (o : Bool), M.ls 512 F 0 = (A ++ (⟨g, x, o⟩ :: B), 0) ∧ Off g A := by
  obtain ⟨a, b, e, na, nb, la, lb⟩ := range_cut (g := g) (by omega)
  rcases h.tab (16 + g) (by omega) (by omega) with h1 | ⟨Q, o, h1, _, hQ⟩
  · exact absurd h1 h0
  · exact ⟨a.filterMap (M.mp 512 F 0), b.filterMap (M.mp 512 F 0), ((16 * Q : Nat) : Int), o, by rw [lsOk, M.ln, e, List.filterMap_append, List.filterMap_cons_some (h.mp_yes hg h1 hQ)], off_of na⟩
/-- Where the elder list's element stands. -/
def at1 (n j : Nat) : Nat := if j ≤ n then j else j - 1
theorem two_lists {LA LB : List K3} {k : K3} {g n N j : Nat} (hn : LA.length = n) (hN : (LA ++ LB).length = N) (o1 : Off g LA) (o2 : Off g LB) (hj : j < N + 1) (h : j ≠ n) :
    ∃ e : K3, (LA ++ (k :: LB))[j]? = some e ∧ (LA ++ LB)[at1 n j]? = some e ∧ ((e.p : Int) == (g : Int)) = false ∧ at1 n j < N ∧ at1 n j + 1 = at1 n (j + 1) := by
  rw [List.length_append, hn] at hN
  by_cases c : j < n
  · have e1 : at1 n j = j := by unfold at1; rw [if_pos (by omega)]
    have hl : j < LA.length := by omega
    refine ⟨LA[j], ?_, ?_, o1 j _ (List.getElem?_eq_getElem hl), by omega, by unfold at1; rw [if_pos (by omega), if_pos (by omega)]⟩
    · rw [List.getElem?_append_left hl, List.getElem?_eq_getElem hl]
    · rw [e1, List.getElem?_append_left hl, List.getElem?_eq_getElem hl]
  · have e1 : at1 n j = j - 1 := by unfold at1; rw [if_neg (by omega)]
    have hl : j - 1 - n < LB.length := by omega
    refine ⟨LB[j - 1 - n], ?_, ?_, o2 _ _ (List.getElem?_eq_getElem hl), by omega, by unfold at1; rw [if_neg (by omega), if_neg (by omega)]; omega⟩
    · rw [List.getElem?_append_right (by omega), hn, show j - n = j - 1 - n + 1 by omega, List.getElem?_cons_succ, List.getElem?_eq_getElem hl]
    · rw [e1, List.getElem?_append_right (by omega), hn, List.getElem?_eq_getElem hl]
theorem at_mid {LA LB : List K3} {k : K3} {n : Nat} (hn : LA.length = n) : (LA ++ (k :: LB))[n]? = some k := by
  rw [List.getElem?_append_right (by omega), hn, Nat.sub_self]; rfl
theorem at1_mid (n : Nat) : at1 n n = at1 n (n + 1) := by unfold at1; rw [if_pos (Nat.le_refl _), if_neg (by omega)]; omega
theorem at_front {LA LB : List K3} {g n j : Nat} (hn : LA.length = n) (o1 : Off g LA) (hj : j < n) : ∃ e : K3, (LA ++ LB)[j]? = some e ∧ ((e.p : Int) == (g : Int)) = false := by
  have hl : j < LA.length := by omega
  exact ⟨LA[j], by rw [List.getElem?_append_left hl, List.getElem?_eq_getElem hl], o1 j _ (List.getElem?_eq_getElem hl)⟩
end Go.Proofs.Ytfdnangceomeiaa
