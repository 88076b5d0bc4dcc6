/-
  WHAT COMES OF A CAPABILITY IS WEAKER, PLAINLY; and how long the tree is. Speaks of no function of the program.
-/
import Derived.Test.YtkpcdfiebjigbaaTools
namespace Go.Proofs.Ytkpcdfiebjigbaa
set_option maxRecDepth 10000
set_option linter.unusedVariables false

namespace M
open T9 (Fo)
/-- Each slot's capability is weaker than that of what it comes of. -/
def Wkf (g : Int × Int → C) : Option C → Fo → Prop
  | _, Deep.BT.nil => True
  | p, Deep.BT.node bb oo a d r => (∀ c, p = some c → wkr (g a) c = true) ∧ Wkf g (some (g a)) d ∧ Wkf g p r

theorem Wkf.congr {g g' : Int × Int → C} {p : Option C} {f : Fo} (h : ∀ x ∈ f.pre, g' x = g x) (k : Wkf g p f) : Wkf g' p f := by
  induction f using T9.Fo.ind generalizing p with
  | nil => trivial
  | node bb oo a d r ihd ihr =>
    obtain ⟨k1, k2, k3⟩ := k
    have ha : g' a = g a := h a (by simp [T9.Fo.pre])
    refine ⟨fun c hc => by rw [ha]; exact k1 c hc, ?_, ?_⟩
    · rw [ha]; exact ihd (fun x hx => h x (by simp [T9.Fo.pre, hx])) k2
    · exact ihr (fun x hx => h x (by simp [T9.Fo.pre, hx])) k3
theorem Wkf.app {g : Int × Int → C} {p : Option C} {f h : Fo} (k : Wkf g p f) (l : Wkf g p h) : Wkf g p (T9.Fo.app f h) := by
  induction f using T9.Fo.ind with
  | nil => exact l
  | node bb oo a d r ihd ihr =>
    obtain ⟨k1, k2, k3⟩ := k
    exact ⟨k1, k2, ihr k3⟩
theorem Wkf.up {g : Int × Int → C} {c : C} {p : Option C} {f : Fo} (k : Wkf g (some c) f) (h : ∀ c', p = some c' → wkr c c' = true) : Wkf g p f := by
  induction f using T9.Fo.ind with
  | nil => trivial
  | node bb oo a d r ihd ihr =>
    obtain ⟨k1, k2, k3⟩ := k
    exact ⟨fun c' hc' => wkr_trans (k1 c rfl) (h c' hc'), k2, ihr k3⟩
theorem Wkf.drop {g : Int × Int → C} {p : Option C} {f : Fo} (s : Int × Int) (k : Wkf g p f) : Wkf g p (T9.Fo.drop s f) := by
  induction f using T9.Fo.ind generalizing p with
  | nil => trivial
  | node bb oo a d r ihd ihr =>
    obtain ⟨k1, k2, k3⟩ := k
    simp only [T9.Fo.drop]
    split
    · exact (k2.up k1).app k3
    · exact ⟨k1, ihd k2, ihr k3⟩
theorem Wkf.add {g : Int × Int → C} {p : Option C} {f : Fo} {o s : Int × Int} (k : Wkf g p f) (h : wkr (g s) (g o) = true) : Wkf g p (T9.Fo.add o s f) := by
  induction f using T9.Fo.ind generalizing p with
  | nil => trivial
  | node bb oo a d r ihd ihr =>
    obtain ⟨k1, k2, k3⟩ := k
    simp only [T9.Fo.add]
    split
    · rename_i e
      exact ⟨k1, k2.app ⟨fun c hc => by cases hc; rw [e]; exact h, trivial, trivial⟩, k3⟩
    · exact ⟨k1, ihd k2, ihr k3⟩
theorem Wkf.mv {g g' : Int × Int → C} {p : Option C} {f : Fo} {a b : Int × Int} (h : ∀ x ∈ f.pre, g' (T9.Fo.ren a b x) = g x) (k : Wkf g p f) : Wkf g' p (T9.Fo.mv a b f) := by
  induction f using T9.Fo.ind generalizing p with
  | nil => trivial
  | node bb oo x d r ihd ihr =>
    obtain ⟨k1, k2, k3⟩ := k
    have hx : g' (T9.Fo.ren a b x) = g x := h x (by simp [T9.Fo.pre])
    unfold T9.Fo.ren at hx
    simp only [T9.Fo.mv]
    refine ⟨fun c hc => by rw [hx]; exact k1 c hc, ?_, ?_⟩
    · rw [hx]; exact ihd (fun y hy => h y (by simp [T9.Fo.pre, hy])) k2
    · exact ihr (fun y hy => h y (by simp [T9.Fo.pre, hy])) k3
theorem Wkf.kin {g : Int × Int → C} {p : Option C} {f d : Fo} {x : Int × Int} (k : Wkf g p f) (h : f.sub x = some d) : Wkf g (some (g x)) d := by
  induction f using T9.Fo.ind generalizing p with
  | nil => cases h
  | node bb oo a e r ihe ihr =>
    obtain ⟨k1, k2, k3⟩ := k
    simp only [T9.Fo.sub] at h
    split at h
    · rename_i ea; cases h; rw [← ea]; exact k2
    · cases he : e.sub x with
      | some e' => rw [he] at h; simp at h; subst h; exact ihe k2 he
      | none => rw [he] at h; simp at h; exact ihr k3 h
theorem Wkf.all {g : Int × Int → C} {c : C} {f : Fo} (k : Wkf g (some c) f) : ∀ y ∈ f.pre, wkr (g y) c = true := by
  induction f using T9.Fo.ind generalizing c with
  | nil => intro y hy; cases hy
  | node bb oo a d r ihd ihr =>
    obtain ⟨k1, k2, k3⟩ := k
    intro y hy
    simp only [T9.Fo.pre, List.mem_cons, List.mem_append] at hy
    rcases hy with rfl | hy | hy
    · exact k1 c rfl
    · exact wkr_trans (ihd k2 y hy) (k1 c rfl)
    · exact ihr k3 y hy
/-- All kin are weaker. -/
theorem Wkf.kins {g : Int × Int → C} {f : Fo} (k : Wkf g none f) (x y : Int × Int) (h : y ∈ f.kin x) : wkr (g y) (g x) = true := by
  unfold T9.Fo.kin at h
  cases hs : f.sub x with
  | none => rw [hs] at h; cases h
  | some d => rw [hs] at h; exact (k.kin hs).all y h

abbrev Wks (S : St) (f : Fo) : Prop := Wkf (gc S) none f
theorem Wks.start : Wks (fun _ => none) .nil := trivial
theorem Wks.pla {S : St} {f : Fo} (k : Wks S f) (I : Inv S f) (a : Int × Int) (c : C) : Wks (plaS S a c) (plaF S f a c) := by
  by_cases h : plaE S a c = 0
  · obtain ⟨h1, h2, h3, h4⟩ := putE_ok h
    unfold plaF plaS
    rw [if_pos h, putS_up h]
    unfold T9.Fo.rootF
    rw [I.hasnt h4, if_neg (by simp)]
    refine Wkf.app (k.congr fun x hx => ?_) ⟨fun c hc => (nomatch hc), trivial, trivial⟩
    have xa : x ≠ a := fun e => (I.inv x).1 hx (by rw [e]; exact h4)
    rw [gc_up c h1, if_neg xa]
  · obtain ⟨e1, e2⟩ := pla_no (f := f) h; rw [e1, e2]; exact k
theorem Wks.min {S : St} {f : Fo} (k : Wks S f) (I : Inv S f) (a b : Int × Int) {rt bd gd bt : Int} (hbd : 0 ≤ bd) (hgd : 0 ≤ gd) : Wks (minS S a b rt bd gd bt) (minF S f a b rt bd gd bt) := by
  by_cases h : minE S a b rt bd gd bt = 0
  · obtain ⟨he, d, hd, hk, hb, hg, hw⟩ := min_d I hbd hgd h
    obtain ⟨h1, h2⟩ := endE_ok he
    unfold minF minS
    rw [if_pos h, if_pos h, hd]
    unfold T9.Fo.childF
    rw [I.has (srcE_ok h1).2, I.hasnt (plcE_ok h2).2, if_pos rfl, if_neg (by simp)]
    have hne := end_ne he
    refine Wkf.add (k.congr fun x hx => ?_) ?_
    · have xb : x ≠ b := fun e => (I.inv x).1 hx (by rw [e]; exact (plcE_ok h2).2)
      rw [gc_up _ (plcE_ok h2).1, if_neg xb]
    · rw [gc_up _ (plcE_ok h2).1, gc_up _ (plcE_ok h2).1, if_pos rfl, if_neg hne]; exact hw
  · obtain ⟨e1, e2⟩ := min_no (f := f) h; rw [e1, e2]; exact k
theorem Wks.cop {S : St} {f : Fo} (k : Wks S f) (I : Inv S f) (a b : Int × Int) (rt : Int) : Wks (copS S a b rt) (copF S f a b rt) := k.min I a b (Int.le_refl 0) (I.nn a).2
theorem Wks.mov {S : St} {f : Fo} (k : Wks S f) (I : Inv S f) (a b : Int × Int) : Wks (movS S a b) (movF S f a b) := by
  by_cases h : endE S a b = 0
  · obtain ⟨h1, h2⟩ := endE_ok h
    have ha := (I.inv a).2 (srcE_ok h1).2
    have hb : b ∉ f.pre := fun e => (I.inv b).1 e (plcE_ok h2).2
    unfold movF movS
    rw [if_pos h, if_pos h, moveF_yes ha hb]
    refine k.mv fun x hx => ?_
    rw [gc_car h]
    unfold T9.Fo.ren
    by_cases e : x = a
    · rw [if_pos e, if_pos rfl, e]
    · have xb : x ≠ b := fun e' => hb (e' ▸ hx)
      rw [if_neg e, if_neg xb, if_neg e]
  · obtain ⟨e1, e2⟩ := mov_no (f := f) h; rw [e1, e2]; exact k
theorem Wks.rot {S : St} {f : Fo} (k : Wks S f) (I : Inv S f) (G : Good S) (d p a : Int × Int) : Wks (rotS S d p a) (rotF S f d p a) := by
  by_cases h : rotE S d p a = 0
  · have T := turn_of I G h
    obtain ⟨n1, n2, h1, h2, h3⟩ := rot_ok h
    have pin := (I.inv p).2 (srcE_ok h1).2
    have ain := (I.inv a).2 (srcE_ok h2).2
    have sout : aside ∉ f.pre := fun e => by
      have := th_range G (gc_th ((I.inv aside).1 e))
      simp at this
    unfold rotF rotS
    rw [if_pos h, if_pos h, T.f1, T.f2, T.f3]
    have pa : p ≠ aside := fun e => sout (e ▸ pin)
    have aa : a ≠ aside := fun e => sout (e ▸ ain)
    have k1 : Wkf (fun x => if x = aside then gc S p else gc S x) none (T9.Fo.mv p aside f) := k.mv fun x hx => by
      unfold T9.Fo.ren
      by_cases e : x = p
      · rw [if_pos e, if_pos rfl, e]
      · have xs : x ≠ aside := fun e' => sout (e' ▸ hx)
        rw [if_neg e, if_neg xs]
    have k2 : Wkf (fun x => if x = p then gc S a else if x = aside then gc S p else gc S x) none (T9.Fo.mv a p (T9.Fo.mv p aside f)) := k1.mv fun x hx => by
      have m1 := (mem_mv pin).1 hx
      unfold T9.Fo.ren
      by_cases e : x = a
      · rw [if_pos e, if_pos rfl, e, if_neg aa]
      · have xp : x ≠ p := fun e' => by
          rcases m1 with e1 | e1
          · exact pa (e'.symm.trans e1)
          · exact e1.2 e'
        rw [if_neg e, if_neg xp]
    refine k2.mv fun x hx => ?_
    have a1 : a ∈ (T9.Fo.mv p aside f).pre := (mem_mv pin).2 (.inr ⟨ain, Ne.symm n2⟩)
    have m2 := (mem_mv a1).1 hx
    rw [mem_mv pin] at m2
    unfold T9.Fo.ren
    rw [T.gcs]
    by_cases e : x = aside
    · rw [if_pos e, if_neg (Ne.symm n1), if_pos rfl, e, if_neg (Ne.symm pa), if_pos rfl]
    · rw [if_neg e]
      by_cases xp : x = p
      · rw [if_pos xp, if_pos xp]
      · rw [if_neg xp, if_neg xp, if_neg e]
        rcases m2 with e1 | ⟨e1 | e1, e2⟩
        · exact absurd e1 xp
        · exact absurd e1 e
        · have xd : x ≠ d := fun e' => by
            rcases h3 with h3 | h3
            · exact e2 (e'.trans h3)
            · exact (I.inv x).1 e1.1 (e' ▸ (plcE_ok h3).2)
          rw [if_neg xd, if_neg e2]
  · obtain ⟨e1, e2⟩ := rot_no (f := f) h; rw [e1, e2]; exact k
theorem Wks.tak {S : St} {f : Fo} (k : Wks S f) (I : Inv S f) (N : T9.Good f) (a : Int × Int) : Wks (takS S a) (takF S f a) := by
  unfold takS takF
  by_cases h : srcE S a = 0
  · rw [if_pos h, takeS_up h, (tak_ok I h).2]
    refine (k.drop a).congr fun x hx => ?_
    rw [T9.Fo.pre_drop N.nd, List.mem_filter] at hx
    rw [gc_up _ (srcE_ok h).1, if_neg (by simpa using hx.2)]
  · unfold takeS
    unfold srcE at h ⊢
    rw [if_neg h, if_neg h]; exact k

/-! ### How long -/
theorem len_root (f : Fo) (a : Int × Int) : (f.rootF a).len ≤ f.len + 1 := by
  unfold T9.Fo.rootF T9.Fo.len
  split
  · omega
  · rw [T9.Fo.pre_app, T9.Fo.pre_one]; simp
theorem len_childF {f : Fo} (N : T9.Good f) (o a : Int × Int) : (f.childF o a).len ≤ f.len + 1 := by
  unfold T9.Fo.childF T9.Fo.len
  split
  · rename_i h
    split
    · omega
    · rw [T9.Fo.len_add N.nd (T9.Fo.has_iff.1 h)]; omega
  · omega
theorem len_moveF (f : Fo) (a b : Int × Int) : (f.moveF a b).len ≤ f.len := by
  unfold T9.Fo.moveF T9.Fo.len
  split
  · split
    · omega
    · rw [T9.Fo.pre_mv, List.length_map]; omega
  · omega
theorem len_dropF {f : Fo} (N : T9.Good f) (a : Int × Int) : (f.dropF a).len ≤ f.len := by
  unfold T9.Fo.dropF T9.Fo.len
  split
  · rw [T9.Fo.pre_drop N.nd]; exact List.length_filter_le _ _
  · omega
theorem sub_len {f d : Fo} {x : Int × Int} (h : f.sub x = some d) : d.pre.length ≤ f.pre.length := by
  induction f using T9.Fo.ind with
  | nil => cases h
  | node bb oo a e r ihe ihr =>
    simp only [T9.Fo.sub] at h
    simp only [T9.Fo.pre, List.length_cons, List.length_append]
    split at h
    · cases h; omega
    · cases he : e.sub x with
      | some e' => rw [he] at h; simp at h; subst h; have := ihe he; omega
      | none => rw [he] at h; simp at h; have := ihr h; omega
theorem kin_len (f : Fo) (x : Int × Int) : (f.kin x).length ≤ f.len := by
  unfold T9.Fo.kin T9.Fo.len
  cases h : f.sub x with
  | none => simp
  | some d => exact sub_len h
theorem tops_len (f : Fo) : f.tops.length ≤ f.pre.length := by
  induction f using T9.Fo.ind with
  | nil => simp [T9.Fo.tops]
  | node bb oo a d r ihd ihr => simp only [T9.Fo.tops, T9.Fo.pre, List.length_cons, List.length_append]; omega
theorem children_len (f : Fo) (x : Int × Int) : (f.children x).length ≤ f.len := by
  unfold T9.Fo.children T9.Fo.len
  cases h : f.sub x with
  | none => simp
  | some d => exact Nat.le_trans (tops_len d) (sub_len h)
theorem full_len (S : St) : (full S).length ≤ 1024 := fullTo_len S 64
theorem len_pla (S : St) (f : Fo) (a : Int × Int) (c : C) : (plaF S f a c).len ≤ f.len + 1 := by
  unfold plaF; split
  · exact len_root f a
  · omega
theorem len_chi (S : St) {f : Fo} (N : T9.Good f) (o a : Int × Int) (c : C) : (chiF S f o a c).len ≤ f.len + 1 := by
  unfold chiF; split
  · exact len_childF N o a
  · omega
theorem len_min (S : St) {f : Fo} (N : T9.Good f) (a b : Int × Int) (rt bd gd bt : Int) : (minF S f a b rt bd gd bt).len ≤ f.len + 1 := by
  unfold minF; split
  · exact len_childF N a b
  · omega
theorem len_cop (S : St) {f : Fo} (N : T9.Good f) (a b : Int × Int) (rt : Int) : (copF S f a b rt).len ≤ f.len + 1 := len_min S N a b _ _ _ _
theorem len_mov (S : St) (f : Fo) (a b : Int × Int) : (movF S f a b).len ≤ f.len + 1 := by
  unfold movF; split
  · have := len_moveF f a b; omega
  · omega
theorem len_mut (S : St) (f : Fo) (a b : Int × Int) (gd bt : Int) : (mutF S f a b gd bt).len ≤ f.len + 1 := by
  unfold mutF; split
  · have := len_moveF f a b; omega
  · omega
theorem len_rot (S : St) (f : Fo) (d p a : Int × Int) : (rotF S f d p a).len ≤ f.len + 1 := by
  unfold rotF; split
  · have h1 := len_moveF f p aside
    have h2 := len_moveF (f.moveF p aside) a p
    have h3 := len_moveF ((f.moveF p aside).moveF a p) aside d
    omega
  · omega
theorem len_tak (S : St) {f : Fo} (N : T9.Good f) (a : Int × Int) : (takF S f a).len ≤ f.len + 1 := by
  unfold takF; split
  · have := len_dropF N a; omega
  · omega
end M
end Go.Proofs.Ytkpcdfiebjigbaa
