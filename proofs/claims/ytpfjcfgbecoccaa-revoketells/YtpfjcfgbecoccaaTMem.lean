/-
  A TREE IN MEMORY: the members' blocks, their lists of children, the map; what becomes of it where a member's cells are written, a member is laid in or taken out. Speaks of no function of the program.
-/
import Derived.Test.YtpfjcfgbecoccaaTBase
namespace Go.Proofs.Ytpfjcfgbecoccaa
set_option maxRecDepth 10000
namespace T9
open Go.RowKit Go.Maps
set_option linter.unusedVariables false

/-! ### What a slot comes of, as three cells -/
def oN : Option (Int × Int) → Int
  | none => 0
  | some s => s.1
def oA : Option (Int × Int) → Int
  | none => 0
  | some s => s.2
def oB : Option (Int × Int) → Bool
  | none => false
  | some _ => true
theorem oof {o o' : Option (Int × Int)} (h1 : oN o = oN o') (h2 : oA o = oA o') (h3 : oB o = oB o') : o = o' := by
  cases o with
  | none => cases o' with
    | none => rfl
    | some s => cases h3
  | some s => cases o' with
    | none => cases h3
    | some t => obtain ⟨a, b⟩ := s; obtain ⟨c, d⟩ := t; simp [oN, oA] at h1 h2; rw [h1, h2]

/-- A member's block. -/
def MemAt (w : World) (q : Nat) (o : Option (Int × Int)) (v : Value) : Prop := w.heap[q]? = some (.cells #[.int .i64 (oN o), .int .i64 (oA o), .bool (oB o), v] 107)
theorem MemAt.lt {w : World} {q : Nat} {o : Option (Int × Int)} {v : Value} (h : MemAt w q o v) : q < w.heap.size := (Array.getElem?_eq_some_iff.1 h).1
theorem MemAt.fr {O : Nat → Prop} {w w' : World} {q : Nat} {o : Option (Int × Int)} {v : Value} (h : MemAt w q o v) (k : Fr O w w') (ho : ¬ O q) : MemAt w' q o v := (k.block q h.lt ho).trans h
theorem MemAt.c0 {w : World} {q : Nat} {o : Option (Int × Int)} {v : Value} (h : MemAt w q o v) : w.cell? ⟨q, 0, none⟩ = some (.int .i64 (oN o)) := by unfold MemAt at h; simp [World.cell?, h]
theorem MemAt.c1 {w : World} {q : Nat} {o : Option (Int × Int)} {v : Value} (h : MemAt w q o v) : w.cell? ⟨q, 1, none⟩ = some (.int .i64 (oA o)) := by unfold MemAt at h; simp [World.cell?, h]
theorem MemAt.c2 {w : World} {q : Nat} {o : Option (Int × Int)} {v : Value} (h : MemAt w q o v) : w.cell? ⟨q, 2, none⟩ = some (.bool (oB o)) := by unfold MemAt at h; simp [World.cell?, h]
theorem MemAt.c3 {w : World} {q : Nat} {o : Option (Int × Int)} {v : Value} (h : MemAt w q o v) : w.cell? ⟨q, 3, none⟩ = some v := by unfold MemAt at h; simp [World.cell?, h]
theorem MemAt.fz {w : World} {q : Nat} {o : Option (Int × Int)} {v : Value} (h : MemAt w q o v) (i : Nat) : w.frozen? ⟨q, i, none⟩ = false := by unfold MemAt at h; simp [World.frozen?, h]
theorem blkSet {w : World} {q : Nat} {cur : Array Value} {t : TypeId} {fr : Nat × Nat} (h : w.heap[q]? = some (.cells cur t fr)) (i : Nat) (v : Value) : (w.setCell ⟨q, i, none⟩ v).heap[q]? = some (.cells (cur.setIfInBounds i v) t fr) := by
  rw [setCell_eq_setRow w q i cur t fr v h]; exact setRow_heap w q cur _ t fr h
theorem MemAt.put3 {w : World} {q : Nat} {o : Option (Int × Int)} {v : Value} (h : MemAt w q o v) (v' : Value) : MemAt (w.setCell ⟨q, 3, none⟩ v') q o v' ∧ w.grownBy (w.setCell ⟨q, 3, none⟩ v') (some q) := by
  refine ⟨?_, gbSetCell _ _ _ _⟩
  unfold MemAt at h ⊢
  exact blkSet h 3 v'
theorem MemAt.put0 {w : World} {q : Nat} {o : Option (Int × Int)} {v : Value} (h : MemAt w q o v) (o' : Option (Int × Int)) :
    MemAt (((w.setCell ⟨q, 0, none⟩ (.int .i64 (oN o'))).setCell ⟨q, 1, none⟩ (.int .i64 (oA o'))).setCell ⟨q, 2, none⟩ (.bool (oB o'))) q o' v ∧ w.grownBy (((w.setCell ⟨q, 0, none⟩ (.int .i64 (oN o'))).setCell ⟨q, 1, none⟩ (.int .i64 (oA o'))).setCell ⟨q, 2, none⟩ (.bool (oB o'))) (some q) := by
  refine ⟨?_, gbTrans (gbTrans (gbSetCell _ _ _ _) (gbSetCell _ _ _ _)) (gbSetCell _ _ _ _)⟩
  unfold MemAt at h ⊢
  exact blkSet (blkSet (blkSet h 0 _) 1 _) 2 _
theorem MemAt.new (w : World) (o : Option (Int × Int)) (v : Value) : MemAt (w.alloc (.cells #[.int .i64 (oN o), .int .i64 (oA o), .bool (oB o), v] 107)) w.heap.size o v := Deep.blk_alloc_new _ _

theorem _root_.Go.Proofs.Ytpfjcfgbecoccaa.Lst.fr {O : Nat → Prop} {w w' : World} {B : Nat} {v : Value} {L : List (Int × Int)} (h : Lst w B v L) (k : Fr O w w') (ho : ∀ g, v.ownBlock = some g → ¬ O g) : Lst w' B v L := by
  obtain ⟨h1, h2⟩ := h
  refine ⟨h1, ?_⟩
  rcases h2 with h2 | ⟨g, cap, cur, rfl, hb, hg, h3⟩
  · exact .inl h2
  · exact .inr ⟨g, cap, cur, rfl, hb, (k.block g (Array.getElem?_eq_some_iff.1 hg).1 (ho g rfl)).trans hg, h3⟩
theorem _root_.Go.Proofs.Ytpfjcfgbecoccaa.Lst.zero {w : World} {B : Nat} {v : Value} {L : List (Int × Int)} (h : Lst w B v L) : Lst w 0 v L := by
  obtain ⟨h1, h2⟩ := h
  refine ⟨h1, ?_⟩
  rcases h2 with h2 | ⟨g, cap, cur, rfl, hb, hg, h3⟩
  · exact .inl h2
  · exact .inr ⟨g, cap, cur, rfl, Nat.zero_le _, hg, h3⟩
theorem _root_.Go.Proofs.Ytpfjcfgbecoccaa.Lst.blk {w : World} {B g : Nat} {v : Value} {L : List (Int × Int)} (h : Lst w B v L) (e : v.ownBlock = some g) : ∃ cur, w.heap[g]? = some (.cells cur 24 (0, 0)) := by
  obtain ⟨h1, h2⟩ := h
  rcases h2 with ⟨rfl, _⟩ | ⟨g', cap, cur, rfl, hb, hg, h3⟩
  · cases e
  · cases e; exact ⟨cur, hg⟩

/-! ### The tree -/
/-- What is told of the slots that are there: what each comes of, and what comes of it. -/
abbrev Vw := Int × Int → Option (Option (Int × Int) × List (Int × Int))

structure TA (w : World) (p b n : Nat) (K : Int × Int → Option Nat) (V : Int × Int → Value) (P : Vw) : Prop where
  box : w.heap[p]? = some (.cells #[.map (some b)] 100)
  map : KMap w b n K
  gone : ∀ s, P s = none → K s = none
  mem : ∀ s y, P s = some y → ∃ q, K s = some q ∧ MemAt w q y.1 (V s) ∧ Lst w 0 (V s) y.2
  inj : ∀ s t q, K s = some q → K t = some q → s = t
  vinj : ∀ s t g, K s ≠ none → K t ≠ none → (V s).ownBlock = some g → (V t).ownBlock = some g → s = t

theorem TA.cell {w : World} {p b n : Nat} {K : Int × Int → Option Nat} {V : Int × Int → Value} {P : Vw} (h : TA w p b n K V P) : w.cell? ⟨p, 0, none⟩ = some (.map (some b)) := by simp [World.cell?, h.box]
theorem TA.plt {w : World} {p b n : Nat} {K : Int × Int → Option Nat} {V : Int × Int → Value} {P : Vw} (h : TA w p b n K V P) : p < w.heap.size := (Array.getElem?_eq_some_iff.1 h.box).1
theorem TA.has {w : World} {p b n : Nat} {K : Int × Int → Option Nat} {V : Int × Int → Value} {P : Vw} (h : TA w p b n K V P) {s : Int × Int} {q : Nat} (hq : K s = some q) : ∃ y, P s = some y ∧ MemAt w q y.1 (V s) ∧ Lst w 0 (V s) y.2 := by
  cases hp : P s with
  | none => rw [h.gone s hp] at hq; cases hq
  | some y =>
    obtain ⟨q', h1, h2, h3⟩ := h.mem s y hp
    rw [hq] at h1; cases h1
    exact ⟨y, rfl, h2, h3⟩
/-- The blocks are of several sorts. -/
theorem TA.pb {w : World} {p b n : Nat} {K : Int × Int → Option Nat} {V : Int × Int → Value} {P : Vw} (h : TA w p b n K V P) : p ≠ b := by
  rintro rfl
  obtain ⟨D, ⟨es, clock, hb, _⟩, _⟩ := h.map
  rw [h.box] at hb; cases hb
theorem TA.qb {w : World} {p b n : Nat} {K : Int × Int → Option Nat} {V : Int × Int → Value} {P : Vw} (h : TA w p b n K V P) {s : Int × Int} {q : Nat} (hq : K s = some q) : q ≠ b := by
  rintro rfl
  obtain ⟨D, ⟨es, clock, hb, _⟩, _⟩ := h.map
  obtain ⟨y, _, hc, _⟩ := h.has hq
  rw [hc] at hb; cases hb
theorem TA.qp {w : World} {p b n : Nat} {K : Int × Int → Option Nat} {V : Int × Int → Value} {P : Vw} (h : TA w p b n K V P) {s : Int × Int} {q : Nat} (hq : K s = some q) : q ≠ p := by
  rintro rfl
  obtain ⟨y, _, hc, _⟩ := h.has hq
  have := h.box
  rw [hc] at this; cases this
theorem TA.gp {w : World} {p b n : Nat} {K : Int × Int → Option Nat} {V : Int × Int → Value} {P : Vw} (h : TA w p b n K V P) {s : Int × Int} {q g : Nat} (hq : K s = some q) (hg : (V s).ownBlock = some g) : g ≠ p := by
  rintro rfl
  obtain ⟨y, _, _, hl⟩ := h.has hq
  obtain ⟨cur, hc⟩ := hl.blk hg
  have := h.box
  rw [hc] at this; cases this
theorem TA.gb {w : World} {p b n : Nat} {K : Int × Int → Option Nat} {V : Int × Int → Value} {P : Vw} (h : TA w p b n K V P) {s : Int × Int} {q g : Nat} (hq : K s = some q) (hg : (V s).ownBlock = some g) : g ≠ b := by
  rintro rfl
  obtain ⟨y, _, _, hl⟩ := h.has hq
  obtain ⟨cur, hc⟩ := hl.blk hg
  obtain ⟨D, ⟨es, clock, hb, _⟩, _⟩ := h.map
  rw [hc] at hb; cases hb
theorem TA.gq {w : World} {p b n : Nat} {K : Int × Int → Option Nat} {V : Int × Int → Value} {P : Vw} (h : TA w p b n K V P) {s t : Int × Int} {q q' g : Nat} (hq : K s = some q) (hg : (V s).ownBlock = some g) (hq' : K t = some q') : g ≠ q' := by
  rintro rfl
  obtain ⟨y, _, _, hl⟩ := h.has hq
  obtain ⟨y', _, hm, _⟩ := h.has hq'
  obtain ⟨cur, hc⟩ := hl.blk hg
  unfold MemAt at hm
  rw [hc] at hm; cases hm

theorem TA.fr {O : Nat → Prop} {w w' : World} {p b n : Nat} {K : Int × Int → Option Nat} {V : Int × Int → Value} {P : Vw} (h : TA w p b n K V P) (k : Fr O w w') (op : ¬ O p) (ob : ¬ O b) (oq : ∀ s q, K s = some q → ¬ O q) (og : ∀ s q g, K s = some q → (V s).ownBlock = some g → ¬ O g) : TA w' p b n K V P :=
  ⟨(k.block p h.plt op).trans h.box, h.map.fr k ob, h.gone, fun s y hy => by obtain ⟨q, h1, h2, h3⟩ := h.mem s y hy; exact ⟨q, h1, h2.fr k (oq s q h1), h3.fr k (fun g hg => og s q g h1 hg)⟩, h.inj, h.vinj⟩
theorem TA.kept {w w' : World} {p b n : Nat} {K : Int × Int → Option Nat} {V : Int × Int → Value} {P : Vw} (h : TA w p b n K V P) (k : w.grownBy w' none) : TA w' p b n K V P :=
  h.fr (O := fun _ => False) (Fr.grown k) (fun e => e) (fun e => e) (fun _ _ _ e => e) (fun _ _ _ _ _ e => e)

/-- What a slot comes of is written anew. -/
theorem TA.setOf {w : World} {p b n q : Nat} {K : Int × Int → Option Nat} {V : Int × Int → Value} {P : Vw} (h : TA w p b n K V P) {s : Int × Int} {o : Option (Int × Int)} {l : List (Int × Int)} (hq : K s = some q) (hs : P s = some (o, l)) (o' : Option (Int × Int)) :
    TA (((w.setCell ⟨q, 0, none⟩ (.int .i64 (oN o'))).setCell ⟨q, 1, none⟩ (.int .i64 (oA o'))).setCell ⟨q, 2, none⟩ (.bool (oB o'))) p b n K V (fun t => if t = s then some (o', l) else P t) ∧
    w.grownBy (((w.setCell ⟨q, 0, none⟩ (.int .i64 (oN o'))).setCell ⟨q, 1, none⟩ (.int .i64 (oA o'))).setCell ⟨q, 2, none⟩ (.bool (oB o'))) (some q) := by
  obtain ⟨y, hy, hm, hl⟩ := h.has hq
  rw [hs] at hy; cases hy
  obtain ⟨M1, G1⟩ := hm.put0 o'
  have k : Fr (fun i => i = q) w _ := Fr.at G1 rfl
  refine ⟨⟨(k.block p h.plt (Ne.symm (h.qp hq))).trans h.box, h.map.fr k (Ne.symm (h.qb hq)), fun t ht => ?_, fun t y hy => ?_, h.inj, h.vinj⟩, G1⟩
  · by_cases e : t = s
    · simp [e] at ht
    · exact h.gone t (by simpa [e] using ht)
  · by_cases e : t = s
    · subst e
      simp at hy; subst hy
      exact ⟨q, hq, M1, hl.fr k (fun g hg e => h.gq hq hg hq e)⟩
    · obtain ⟨q', h1, h2, h3⟩ := h.mem t y (by simpa [e] using hy)
      exact ⟨q', h1, h2.fr k (fun e2 => e (h.inj t s q (e2 ▸ h1) hq)), h3.fr k (fun g hg e2 => h.gq h1 hg hq e2)⟩
/-- The list of what comes of a slot has become another one, at the same block or at a new one; then it is stored. -/
theorem TA.setCh {w w1 : World} {p b n q : Nat} {K : Int × Int → Option Nat} {V : Int × Int → Value} {P : Vw} (h : TA w p b n K V P) {s : Int × Int} {o : Option (Int × Int)} {l l' : List (Int × Int)} {v' : Value} (hq : K s = some q) (hs : P s = some (o, l))
    (g1 : w.grownBy w1 (V s).ownBlock) (hv : Lst w1 0 v' l') (hb : v'.ownBlock = (V s).ownBlock ∨ ∀ g, v'.ownBlock = some g → w.heap.size ≤ g) :
    TA (w1.setCell ⟨q, 3, none⟩ v') p b n K (fun t => if t = s then v' else V t) (fun t => if t = s then some (o, l') else P t) ∧ Fr (fun i => i = q ∨ (V s).ownBlock = some i) w (w1.setCell ⟨q, 3, none⟩ v') := by
  obtain ⟨y, hy, hm, hl⟩ := h.has hq
  rw [hs] at hy; cases hy
  have F1 : Fr (fun i => (V s).ownBlock = some i) w w1 := by
    cases e : (V s).ownBlock with
    | none => rw [e] at g1; exact Fr.grown g1
    | some g => rw [e] at g1; exact Fr.at g1 rfl
  have hm1 : MemAt w1 q o (V s) := hm.fr F1 (fun e => h.gq hq e hq rfl)
  obtain ⟨M1, G1⟩ := hm1.put3 v'
  have k : Fr (fun i => i = q ∨ (V s).ownBlock = some i) w (w1.setCell ⟨q, 3, none⟩ v') := (F1.mono (fun i _ e => .inr e)).join (Fr.at (O := fun i => i = q) G1 rfl) (fun i _ e => .inl e)
  have k1 : Fr (fun i => i = q) w1 (w1.setCell ⟨q, 3, none⟩ v') := Fr.at G1 rfl
  have hvb : ∀ t q' g, t ≠ s → K t = some q' → (V t).ownBlock = some g → v'.ownBlock = some g → False := fun t q' g ht h1 hg hg' => by
    rcases hb with e | e
    · exact ht (h.vinj t s g (by rw [h1]; simp) (by rw [hq]; simp) hg (e ▸ hg'))
    · have h2 := e g hg'
      obtain ⟨y, _, _, hl⟩ := h.has h1
      have := (hl.lt g hg).2
      omega
  refine ⟨⟨(k.block p h.plt (fun e => ?_)).trans h.box, h.map.fr k (fun e => ?_), fun t ht => ?_, fun t y hy => ?_, h.inj, fun t t' g ht ht' hg hg' => ?_⟩, k⟩
  · rcases e with e | e
    · exact h.qp hq e.symm
    · exact h.gp hq e rfl
  · rcases e with e | e
    · exact h.qb hq e.symm
    · exact h.gb hq e rfl
  · by_cases e : t = s
    · simp [e] at ht
    · exact h.gone t (by simpa [e] using ht)
  · by_cases e : t = s
    · subst e
      simp at hy; subst hy
      refine ⟨q, hq, by simpa using M1, ?_⟩
      have : Lst (w1.setCell ⟨q, 3, none⟩ v') 0 v' l' := hv.fr k1 (fun g hg e => by
        obtain ⟨cur, hc⟩ := hv.blk hg
        rw [e] at hc; rw [hm1] at hc; cases hc)
      simpa using this
    · obtain ⟨q', h1, h2, h3⟩ := h.mem t y (by simpa [e] using hy)
      refine ⟨q', h1, ?_, ?_⟩
      · simp only [if_neg e]
        exact h2.fr k (fun e2 => by
          rcases e2 with e2 | e2
          · exact e (h.inj t s q (e2 ▸ h1) hq)
          · exact h.gq hq e2 h1 rfl)
      · simp only [if_neg e]
        exact h3.fr k (fun g hg e2 => by
          rcases e2 with e2 | e2
          · exact h.gq h1 hg hq e2
          · exact e (h.vinj t s g (by rw [h1]; simp) (by rw [hq]; simp) hg e2))
  · by_cases e : t = s
    · by_cases e' : t' = s
      · rw [e, e']
      · simp only [if_pos e] at hg
        simp only [if_neg e'] at hg'
        cases hk : K t' with
        | none => exact absurd hk ht'
        | some q' => exact (hvb t' q' g e' hk hg' hg).elim
    · by_cases e' : t' = s
      · simp only [if_neg e] at hg
        simp only [if_pos e'] at hg'
        cases hk : K t with
        | none => exact absurd hk ht
        | some q' => exact (hvb t q' g e hk hg hg').elim
      · simp only [if_neg e] at hg
        simp only [if_neg e'] at hg'
        exact h.vinj t t' g ht ht' hg hg'
/-- A member is laid in that was just made. -/
theorem TA.put {w w1 w2 : World} {p b n q : Nat} {K : Int × Int → Option Nat} {V : Int × Int → Value} {P : Vw} (h : TA w p b n K V P) {s : Int × Int} (hs : P s = none) {o : Option (Int × Int)} (g1 : w.grownBy w1 none) (hm : MemAt w1 q o (.slice none 0 0)) (hq : w.heap.size ≤ q)
    (g2 : w1.grownBy w2 (some b)) (hk : KMap w2 b (n + 1) (fun j => if j = s then some q else K j)) :
    TA w2 p b (n + 1) (fun j => if j = s then some q else K j) (fun t => if t = s then .slice none 0 0 else V t) (fun t => if t = s then some (o, []) else P t) ∧ Fr (fun i => i = b) w w2 := by
  have k2 : Fr (fun i => i = b) w1 w2 := Fr.at g2 rfl
  have k : Fr (fun i => i = b) w w2 := (Fr.grown g1).trans k2
  have hlt : ∀ t q', K t = some q' → q' < w.heap.size := fun t q' hq' => by obtain ⟨y, _, hm, _⟩ := h.has hq'; exact hm.lt
  have hbl := h.map.lt
  refine ⟨⟨(k.block p h.plt h.pb).trans h.box, hk, fun t ht => ?_, fun t y hy => ?_, fun t t' r ht ht' => ?_, fun t t' g ht ht' hg hg' => ?_⟩, k⟩
  · by_cases e : t = s
    · simp [e] at ht
    · simp only [if_neg e] at ht ⊢; exact h.gone t ht
  · by_cases e : t = s
    · subst e
      simp at hy; subst hy
      refine ⟨q, by simp, ?_, ?_⟩
      · simpa using hm.fr k2 (by omega)
      · simpa using Lst.nil w2 0
    · obtain ⟨q', h1, h2, h3⟩ := h.mem t y (by simpa [e] using hy)
      refine ⟨q', by simpa [e] using h1, ?_, ?_⟩
      · simp only [if_neg e]; exact h2.fr k (h.qb h1)
      · simp only [if_neg e]; exact h3.fr k (fun g hg => h.gb h1 hg)
  · by_cases e : t = s
    · by_cases e' : t' = s
      · rw [e, e']
      · simp only [if_pos e] at ht
        simp only [if_neg e'] at ht'
        have := hlt t' r ht'
        cases ht; omega
    · by_cases e' : t' = s
      · simp only [if_neg e] at ht
        simp only [if_pos e'] at ht'
        have := hlt t r ht
        cases ht'; omega
      · simp only [if_neg e] at ht
        simp only [if_neg e'] at ht'
        exact h.inj t t' r ht ht'
  · by_cases e : t = s
    · simp only [if_pos e] at hg; cases hg
    · by_cases e' : t' = s
      · simp only [if_pos e'] at hg'; cases hg'
      · simp only [if_neg e] at hg ht
        simp only [if_neg e'] at hg' ht'
        exact h.vinj t t' g ht ht' hg hg'
/-- A member is laid in under another name, which it had no longer. -/
theorem TA.back {w w2 : World} {p b n q : Nat} {K : Int × Int → Option Nat} {V : Int × Int → Value} {P : Vw} (h : TA w p b n K V P) {s : Int × Int} (hs : P s = none) {y : Option (Int × Int) × List (Int × Int)} {v : Value} (hm : MemAt w q y.1 v) (hl : Lst w 0 v y.2) (hq : ∀ t, K t ≠ some q) (hg : ∀ t q' g, K t = some q' → (V t).ownBlock = some g → v.ownBlock ≠ some g)
    (g2 : w.grownBy w2 (some b)) (hk : KMap w2 b (n + 1) (fun j => if j = s then some q else K j)) :
    TA w2 p b (n + 1) (fun j => if j = s then some q else K j) (fun t => if t = s then v else V t) (fun t => if t = s then some y else P t) ∧ Fr (fun i => i = b) w w2 := by
  have k : Fr (fun i => i = b) w w2 := Fr.at g2 rfl
  have hqb : q ≠ b := by
    rintro rfl
    obtain ⟨D, ⟨es, clock, hb, _⟩, _⟩ := h.map
    rw [hm] at hb; cases hb
  have hgb : ∀ g, v.ownBlock = some g → g ≠ b := by
    rintro g hg rfl
    obtain ⟨D, ⟨es, clock, hb, _⟩, _⟩ := h.map
    obtain ⟨cur, hc⟩ := hl.blk hg
    rw [hc] at hb; cases hb
  refine ⟨⟨(k.block p h.plt h.pb).trans h.box, hk, fun t ht => ?_, fun t y' hy => ?_, fun t t' r ht ht' => ?_, fun t t' g ht ht' hg1 hg2 => ?_⟩, k⟩
  · by_cases e : t = s
    · simp [e] at ht
    · simp only [if_neg e] at ht ⊢; exact h.gone t ht
  · by_cases e : t = s
    · subst e
      simp at hy; subst hy
      refine ⟨q, by simp, ?_, ?_⟩
      · simpa using hm.fr k hqb
      · simpa using hl.fr k hgb
    · obtain ⟨q', h1, h2, h3⟩ := h.mem t y' (by simpa [e] using hy)
      refine ⟨q', by simpa [e] using h1, ?_, ?_⟩
      · simp only [if_neg e]; exact h2.fr k (h.qb h1)
      · simp only [if_neg e]; exact h3.fr k (fun g hg => h.gb h1 hg)
  · by_cases e : t = s
    · by_cases e' : t' = s
      · rw [e, e']
      · simp only [if_pos e] at ht
        simp only [if_neg e'] at ht'
        cases ht; exact absurd ht' (hq t')
    · by_cases e' : t' = s
      · simp only [if_neg e] at ht
        simp only [if_pos e'] at ht'
        cases ht'; exact absurd ht (hq t)
      · simp only [if_neg e] at ht
        simp only [if_neg e'] at ht'
        exact h.inj t t' r ht ht'
  · by_cases e : t = s
    · by_cases e' : t' = s
      · rw [e, e']
      · simp only [if_pos e] at hg1
        simp only [if_neg e'] at hg2 ht'
        cases hk : K t' with
        | none => exact absurd hk ht'
        | some q' => exact absurd hg1 (hg t' q' g hk hg2)
    · by_cases e' : t' = s
      · simp only [if_neg e] at hg1 ht
        simp only [if_pos e'] at hg2
        cases hk : K t with
        | none => exact absurd hk ht
        | some q' => exact absurd hg2 (hg t q' g hk hg1)
      · simp only [if_neg e] at hg1 ht
        simp only [if_neg e'] at hg2 ht'
        exact h.vinj t t' g ht ht' hg1 hg2
/-- A member is taken out. -/
theorem TA.del {w w2 : World} {p b n m : Nat} {K : Int × Int → Option Nat} {V : Int × Int → Value} {P : Vw} (h : TA w p b n K V P) {s : Int × Int} (g2 : w.grownBy w2 (some b)) (hk : KMap w2 b m (fun j => if j = s then none else K j)) :
    TA w2 p b m (fun j => if j = s then none else K j) V (fun t => if t = s then none else P t) ∧ Fr (fun i => i = b) w w2 := by
  have k : Fr (fun i => i = b) w w2 := Fr.at g2 rfl
  refine ⟨⟨(k.block p h.plt h.pb).trans h.box, hk, fun t ht => ?_, fun t y hy => ?_, fun t t' r ht ht' => ?_, fun t t' g ht ht' hg hg' => ?_⟩, k⟩
  · by_cases e : t = s
    · simp [e]
    · simp only [if_neg e] at ht ⊢; exact h.gone t ht
  · by_cases e : t = s
    · simp [e] at hy
    · obtain ⟨q', h1, h2, h3⟩ := h.mem t y (by simpa [e] using hy)
      exact ⟨q', by simpa [e] using h1, h2.fr k (h.qb h1), h3.fr k (fun g hg => h.gb h1 hg)⟩
  · by_cases e : t = s
    · simp [e] at ht
    · by_cases e' : t' = s
      · simp [e'] at ht'
      · simp only [if_neg e] at ht
        simp only [if_neg e'] at ht'
        exact h.inj t t' r ht ht'
  · by_cases e : t = s
    · simp [e] at ht
    · by_cases e' : t' = s
      · simp [e'] at ht'
      · simp only [if_neg e] at ht
        simp only [if_neg e'] at ht'
        exact h.vinj t t' g ht ht' hg hg'
theorem TA.congr {w : World} {p b n m : Nat} {K : Int × Int → Option Nat} {V : Int × Int → Value} {P Q : Vw} (h : TA w p b n K V P) (e : ∀ s, P s = Q s) (hn : n = m) : TA w p b m K V Q := by
  have : P = Q := funext e
  subst this hn; exact h

/-- A tree whose blocks are among O. -/
def TAt (w : World) (p : Nat) (O : Nat → Prop) (f : Fo) : Prop :=
  ∃ b K V, TA w p b f.pre.length K V (f.view none) ∧ O p ∧ O b ∧ (∀ s q, K s = some q → O q) ∧ ∀ s q g, K s = some q → (V s).ownBlock = some g → O g
theorem TAt.fr {O O' : Nat → Prop} {w w' : World} {p : Nat} {f : Fo} (h : TAt w p O f) (k : Fr O' w w') (ho : ∀ i, O i → ¬ O' i) : TAt w' p O f := by
  obtain ⟨b, K, V, h1, h2, h3, h4, h5⟩ := h
  exact ⟨b, K, V, h1.fr k (ho _ h2) (ho _ h3) (fun s q hq => ho _ (h4 s q hq)) (fun s q g hq hg => ho _ (h5 s q g hq hg)), h2, h3, h4, h5⟩
theorem TAt.kept {O : Nat → Prop} {w w' : World} {p : Nat} {f : Fo} (h : TAt w p O f) (k : w.grownBy w' none) : TAt w' p O f := h.fr (O' := fun _ => False) (Fr.grown k) (fun _ _ e => e)
theorem TAt.mono {O O' : Nat → Prop} {w : World} {p : Nat} {f : Fo} (h : TAt w p O f) (ho : ∀ i, O i → O' i) : TAt w p O' f := by
  obtain ⟨b, K, V, h1, h2, h3, h4, h5⟩ := h
  exact ⟨b, K, V, h1, ho _ h2, ho _ h3, fun s q hq => ho _ (h4 s q hq), fun s q g hq hg => ho _ (h5 s q g hq hg)⟩

/-- What holds of a tree. -/
structure Good (f : Fo) : Prop where
  nd : f.pre.Nodup
  num : ∀ s ∈ f.pre, I64 s.1 ∧ I64 s.2
theorem Good.nil : Good .nil := ⟨by simp [Fo.pre], by simp [Fo.pre]⟩
/-- What was there, and what is new. -/
abbrev wide (O : Nat → Prop) (w w' : World) : Nat → Prop := fun i => O i ∨ (w.heap.size ≤ i ∧ i < w'.heap.size)

end T9
end Go.Proofs.Ytpfjcfgbecoccaa
