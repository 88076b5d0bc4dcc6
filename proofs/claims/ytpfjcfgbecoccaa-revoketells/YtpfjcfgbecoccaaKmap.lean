/-
  A MAP FROM CAPABILITIES TO NUMBERS (RevokeTells' own): that it is one, whatever lies in it; two Caps side by side, and lists of capabilities beside them. Speaks of no function of the program.
-/
import Derived.Test.YtpfjcfgbecoccaaCmap
import Derived.Test.YtpfjcfgbecoccaaTls
namespace Go.Proofs.Ytpfjcfgbecoccaa
set_option maxRecDepth 10000
open Go.RowKit Go.Maps
set_option linter.unusedVariables false

theorem Try.keyCap : Keyed Try.prog 36 := Keyed.of_law (deep_law_laid Try.laidOut7 (m := 2) (by omega) (of_decide_eq_true (by kernel_rfl)) (by kernel_rfl) (by kernel_rfl))
theorem keyLits_u {P : Program} {e : TypeId} (he : P.underlying e = some (.int .u64)) (d : Nat) (n : Int) (hn : (Lit.int IntKind.u64 n).wf = true) : P.keyLits (d + 1) e [.int .u64 n] = some [.int .u64 n] := by
  simp [Program.keyLits, he, hn]
theorem keyOf_cap {k o : Int} (hk : I64 k) (ho : I64 o) : ∃ l, keyOf Try.prog 36 (cv ⟨k, o, 0, 0, 0, 0⟩) = some l := by
  have h1 : Try.prog.keyType 36 = true := by kernel_rfl
  have h2 : Try.prog.cellsOf 36 = 6 := by kernel_rfl
  have h3 : Try.prog.cellsOf 3 = 1 := by kernel_rfl
  have h4 : Try.prog.cellsOf 28 = 1 := by kernel_rfl
  obtain ⟨m, hm⟩ : ∃ m, Try.prog.types.size + 1 = m + 1 + 1 := ⟨Try.prog.types.size - 1, by have : 1 ≤ Try.prog.types.size := of_decide_eq_true (by kernel_rfl); omega⟩
  have z0 : (Lit.int IntKind.i64 0).wf = true := by decide
  have z1 : (Lit.int IntKind.u64 0).wf = true := by decide
  have a0 := keyLits_one Try.underlying3 m k hk
  have a1 := keyLits_one Try.underlying3 m o ho
  have a2 := keyLits_one Try.underlying3 m 0 z0
  have a3 := keyLits_u Try.underlying28 m 0 z1
  have hf : (cv ⟨k, o, 0, 0, 0, 0⟩).formed Try.prog 36 = true := by simp [Value.formed, Try.underlying36, h2]
  have hkl : ∃ l, Try.prog.keyLits (m + 1 + 1) 36 [.int .i64 k, .int .i64 o, .int .i64 0, .int .u64 0, .int .u64 0, .int .i64 0] = some l := by
    unfold Program.keyLits
    rw [Try.underlying36]
    dsimp only
    rw [if_pos ⟨by rw [h2]; rfl, by decide +kernel⟩]
    simp [h3, h4, a0, a1, a2, a3]
  obtain ⟨l, hl⟩ := hkl
  refine ⟨.string (keyBytes l), ?_⟩
  unfold keyOf
  rw [Try.underlying36]
  simp only [h1, hf, Bool.and_self, if_true, hm]
  show (Try.prog.keyLits (m + 1 + 1) 36 [.int .i64 k, .int .i64 o, .int .i64 0, .int .u64 0, .int .u64 0, .int .i64 0]).map _ = _
  rw [hl]
  rfl
/-- It is such a map. -/
def KM (w : World) (b : Nat) : Prop := ∃ es clock, w.heap[b]? = some (.map es clock) ∧ ∀ x ∈ es.toList, (∃ l, keyOf Try.prog 36 x.key = some l) ∧ ∃ z, x.val = .int .i64 z
/-- .. with an entry of that mark. -/
def KE (w : World) (b born : Nat) : Prop := ∃ es clock, w.heap[b]? = some (.map es clock) ∧ (∀ x ∈ es.toList, (∃ l, keyOf Try.prog 36 x.key = some l) ∧ ∃ z, x.val = .int .i64 z) ∧ ∃ x ∈ es.toList, x.born = born
theorem KM.made (w : World) : KM (w.alloc (.map #[] 0)) w.heap.size := ⟨#[], 0, Deep.blk_alloc_new _ _, fun x hx => by simp at hx⟩
theorem KM.lt {w : World} {b : Nat} (h : KM w b) : b < w.heap.size := by
  obtain ⟨es, c, h, _⟩ := h
  exact (Array.getElem?_eq_some_iff.1 h).1
theorem KM.block {w w' : World} {b : Nat} (h : KM w b) (e : w'.heap[b]? = w.heap[b]?) : KM w' b := by
  obtain ⟨es, c, h1, h2⟩ := h
  exact ⟨es, c, e.trans h1, h2⟩
theorem KM.look {w : World} {b : Nat} (h : KM w b) {key : Value} {l : Lit} (hk : keyOf Try.prog 36 key = some l) : ∃ z, (Instr.lookup 45 (.map (some b)) key false).run Try.prog w = .ok (.int .i64 z) w := by
  obtain ⟨es, clock, hb, hx⟩ := h
  rcases Try.keyCap.find w hk es.toList (fun x hx' => (hx x hx').1) with ⟨h1, h2⟩ | ⟨j, e0, h1, h2, h3⟩
  · refine ⟨0, ?_⟩
    simp [Instr.lookup, run_underlying Try.underlying45, MapKept.run_getObj_map hb, Try.keyCap.check w _ hk, h1, Result.andThen]
  · obtain ⟨z, hz⟩ := (hx e0 (List.mem_of_getElem? h2)).2
    refine ⟨z, ?_⟩
    rw [hz] at h1
    simp [Instr.lookup, run_underlying Try.underlying45, MapKept.run_getObj_map hb, Try.keyCap.check w _ hk, h1, Result.andThen]
theorem KM.entry {w : World} {b : Nat} (h : KM w b) {key : Value} {l : Lit} (hk : keyOf Try.prog 36 key = some l) :
    ∃ z born w', (Instr.mapEntry 45 (.map (some b)) key).run Try.prog w = .ok (.tuple #[.int .i64 z, .int .i64 ((born : Nat) : Int)]) w' ∧ KE w' b born ∧ w.grownBy w' (some b) := by
  obtain ⟨es, clock, hb, hx⟩ := h
  have gb : ∀ o, w.grownBy (ChangeMaps.setBlock w b o) (some b) := fun o => ⟨rfl, rfl, rfl, by simp [ChangeMaps.setBlock], fun i _ hi => ChangeMaps.heap_setBlock_other hb _ (fun e => hi (by rw [e]))⟩
  rcases Try.keyCap.find w hk es.toList (fun x hx' => (hx x hx').1) with ⟨h1, h2⟩ | ⟨j, e0, h1, h2, h3⟩
  · refine ⟨0, clock, ChangeMaps.setBlock w b (.map (es.push ⟨key, .int .i64 0, clock⟩) (clock + 1)), ?_, ⟨_, _, ChangeMaps.heap_setBlock_same hb _, fun x hx' => ?_, ⟨key, .int .i64 0, clock⟩, by simp, rfl⟩, gb _⟩
    · simp [Instr.mapEntry, run_underlying Try.underlying45, MapKept.run_getObj_map hb, Try.keyCap.check w _ hk, h1, MapKept.run_setObj_map _ hb, Result.andThen, ChangeMaps.setBlock, goInt]
    · simp only [Array.toList_push, List.mem_append, List.mem_singleton] at hx'
      rcases hx' with hx' | rfl
      · exact hx x hx'
      · exact ⟨⟨l, hk⟩, 0, rfl⟩
  · have hj : es[j]? = some e0 := by simpa using h2
    obtain ⟨z, hz⟩ := (hx e0 (List.mem_of_getElem? h2)).2
    rw [hz] at h1
    have hmod : ∀ x, x ∈ (es.modify j fun e => { e with key := key }).toList → x ∈ es.toList ∨ x = { e0 with key := key } := fun x hx' => by
      rcases MapFrom.mem_modify hx' with hh | ⟨e, he, rfl⟩
      · exact .inl hh
      · rw [hj] at he; cases he; exact .inr rfl
    refine ⟨z, e0.born, ChangeMaps.setBlock w b (.map (es.modify j fun e => { e with key := key }) clock), ?_, ⟨_, _, ChangeMaps.heap_setBlock_same hb _, fun x hx' => ?_, { e0 with key := key }, ?_, rfl⟩, gb _⟩
    · simp [Instr.mapEntry, run_underlying Try.underlying45, MapKept.run_getObj_map hb, Try.keyCap.check w _ hk, h1, hj, h3, Try.keyCap.stays w hk, MapKept.run_setObj_map _ hb, Result.andThen, ChangeMaps.setBlock, goInt]
    · rcases hmod x hx' with hh | rfl
      · exact hx x hh
      · exact ⟨⟨l, hk⟩, z, hz⟩
    · rw [Array.mem_toList_iff, Array.mem_iff_getElem?]
      exact ⟨j, by rw [Array.getElem?_modify, if_pos rfl, hj]; rfl⟩
theorem KE.store {w : World} {b born : Nat} (h : KE w b born) (v : Int) : ∃ w', (Instr.entryStore 45 (.map (some b)) (.int .i64 (born : Int)) (.int .i64 v)).run Try.prog w = .ok () w' ∧ KM w' b ∧ w.grownBy w' (some b) := by
  obtain ⟨es, clock, hb, hx, x0, hx0, hbo⟩ := h
  cases hf : es.findIdx? (fun e => (e.born : Int) == (born : Int)) with
  | none =>
    exfalso
    rw [Array.findIdx?_eq_none_iff] at hf
    have := hf x0 (Array.mem_toList_iff.1 hx0)
    simp [hbo] at this
  | some i =>
    refine ⟨ChangeMaps.setBlock w b (.map (es.modify i fun e => { e with val := .int .i64 v }) clock), ?_, ⟨_, _, ChangeMaps.heap_setBlock_same hb _, fun x hx' => ?_⟩, ⟨rfl, rfl, rfl, by simp [ChangeMaps.setBlock], fun i _ hi => ChangeMaps.heap_setBlock_other hb _ (fun e => hi (by rw [e]))⟩⟩
    · simp [Instr.entryStore, MapKept.run_getObj_map hb, asInt, asIntOf, hf, MapKept.run_setObj_map _ hb, Result.andThen, ChangeMaps.setBlock]
    · rcases MapFrom.mem_modify hx' with hh | ⟨e, he, rfl⟩
      · exact hx x hh
      · exact ⟨(hx e (MapFrom.at_mem he)).1, v, rfl⟩

namespace M
theorem rev_all11 {S : St} {f : T9.Fo} (I : Inv S f) (G : Good S) (N : T9.Good f) {a : Int × Int} (ha : (gc S a).k ≠ 0) (s : Sm S f a) (hm : f.len ≤ 1000) {q : Bool} {y : X} (hr : revR S f a 1000 = (q, y)) : q = false ∧ y.T = [] ∧ (∀ z, gc y.S z = if z ∈ f.kin a then C.zero else gc S z) ∧ (∀ z, M.th y.S z = M.th S z) ∧ Ok y := by
  unfold revR at hr
  have hkl := kin_len f a
  have ok : Ok ⟨S, f, 1000, []⟩ := ⟨I, G, N⟩
  have R := rvk_same (f.len + 1) ⟨S, f, 1000, []⟩ a ok ha s (by show (f.kin a).length < f.len + 1; omega)
  have K := rvk_kp (f.len + 1) ⟨S, f, 1000, []⟩ a ok
  have hr' : rvk (f.len + 1) ⟨S, f, 1000, []⟩ a = (q, y) := hr
  rw [hr'] at R K
  have hq := R.q
  have hg := R.gc
  simp only at hq hg
  rw [show (f.kin a).length - 1000 = 0 by omega, List.drop_zero] at hg
  exact ⟨by rw [hq]; simp; omega, R.T, hg, R.th, K.ok⟩
theorem full_congr {S S' : St} (G : Good S) (G' : Good S') (h : ∀ s, gc S s = gc S' s) : full S = full S' := by
  unfold full
  rw [fullTo_uni G, fullTo_uni G']
  exact List.filter_congr (fun s _ => by rw [h])
theorem cnt_congr {S S' : St} (G : Good S) (G' : Good S') (h : ∀ s, gc S s = gc S' s) (k o : Int) : cnt S k o = cnt S' k o := by
  unfold cnt cntL
  rw [full_congr G G' h]
  refine congrArg _ (List.filter_congr (fun s _ => ?_))
  unfold hit
  rw [show getC S s.1 s.2 = getC S' s.1 s.2 from h s]
/-- On the way of a Revoke with few steps. -/
structure Rw (S0 : St) (f0 : T9.Fo) (a : Int × Int) (S : St) (f : T9.Fo) : Prop where
  sub : ∀ s, s ∈ f.kin a → s ∈ f0.kin a
  gc : ∀ s, M.gc S s = if s ∈ f0.kin a ∧ s ∉ f.kin a then C.zero else M.gc S0 s
  sm : Sm S f a
theorem Rw.start {S : St} {f : T9.Fo} {a : Int × Int} (s : Sm S f a) : Rw S f a S f := ⟨fun _ h => h, fun s => by rw [if_neg (fun k => k.2 k.1)], s⟩
theorem Rw.next {S0 : St} {f0 : T9.Fo} {a : Int × Int} {S : St} {f : T9.Fo} (h : Rw S0 f0 a S f) (I : Inv S f) (G : Good S) (N : T9.Good f) (ha : (M.gc S a).k ≠ 0) {l : Nat} {q : Bool} {y : X} (hr : revR S f a (l : Int) = (q, y)) : Rw S0 f0 a y.S y.f := by
  unfold revR at hr
  rw [Int.toNat_natCast] at hr
  have hkl := kin_len f a
  have R := rvk_same (f.len + 1) ⟨S, f, l, []⟩ a ⟨I, G, N⟩ ha h.sm (by show (f.kin a).length < f.len + 1; omega)
  rw [hr] at R
  have hk := R.kin
  have hg := R.gc
  simp only at hk hg
  have hnd := kin_nodup N.nd a
  obtain ⟨m, hm⟩ : ∃ m, (f.kin a).length - l = m := ⟨_, rfl⟩
  rw [hm] at hk hg
  refine ⟨fun s hs => h.sub s (by rw [hk] at hs; exact List.mem_of_mem_take hs), fun s => ?_, R.sm⟩
  rw [hg, h.gc, hk]
  have hsplit : s ∈ f.kin a ↔ s ∈ (f.kin a).take m ∨ s ∈ (f.kin a).drop m := by rw [← List.mem_append, List.take_append_drop]
  have hdis : s ∈ (f.kin a).take m → s ∈ (f.kin a).drop m → False := fun h1 h2 => by
    rw [← List.take_append_drop m (f.kin a)] at hnd
    exact (List.nodup_append.1 hnd).2.2 s h1 s h2 rfl
  have hs0 := h.sub s
  by_cases e1 : s ∈ (f.kin a).drop m
  · rw [if_pos e1, if_pos ⟨hs0 (hsplit.2 (.inr e1)), fun k => hdis k e1⟩]
  · rw [if_neg e1]
    by_cases e2 : s ∈ (f.kin a).take m
    · rw [if_neg (fun k => k.2 (hsplit.2 (.inl e2))), if_neg (fun k => k.2 e2)]
    · have e3 : s ∉ f.kin a := fun k => by rcases hsplit.1 k with z | z; exact e2 z; exact e1 z
      by_cases e4 : s ∈ f0.kin a
      · rw [if_pos ⟨e4, e3⟩, if_pos ⟨e4, e2⟩]
      · rw [if_neg (fun k => e4 k.1), if_neg (fun k => e4 k.1)]
/-- All done: as with many steps. -/
structure Dn (S0 : St) (f0 : T9.Fo) (a : Int × Int) (b3 : Bool) (S : St) (T : List C) (y : X) : Prop where
  run : (if b3 then revR S0 f0 a 1000 else delR S0 f0 a 1000) = (false, y)
  gc : ∀ s, M.gc S s = M.gc y.S s
  T : T = y.T
theorem Dn.rev {S0 : St} {f0 : T9.Fo} {a : Int × Int} {S : St} {f : T9.Fo} (I : Inv S0 f0) (G : Good S0) (N : T9.Good f0) (ha : (M.gc S0 a).k ≠ 0) (s : Sm S0 f0 a) (hm : f0.len ≤ 1000) (h : Rw S0 f0 a S f) (hk : f.kin a = []) : ∃ y, Dn S0 f0 a true S [] y := by
  obtain ⟨⟨q, y⟩, hr⟩ : ∃ r, revR S0 f0 a 1000 = r := ⟨_, rfl⟩
  obtain ⟨h1, h2, h3, h4, h5⟩ := rev_all11 I G N ha s hm hr
  subst h1
  refine ⟨y, hr, fun z => ?_, h2.symm⟩
  rw [h.gc, h3, hk]
  by_cases e : z ∈ f0.kin a
  · rw [if_pos ⟨e, by simp⟩, if_pos e]
  · rw [if_neg (fun k => e k.1), if_neg e]
theorem Dn.del {S0 : St} {f0 : T9.Fo} {a : Int × Int} {S : St} {f : T9.Fo} {T : List C} {l' : Nat} (h : delR S0 f0 a 1000 = (false, ⟨S, f, l', T⟩)) : Dn S0 f0 a false S T ⟨S, f, l', T⟩ := ⟨h, fun _ => rfl, rfl⟩
theorem Dn.told {S0 : St} {f0 : T9.Fo} {a : Int × Int} {b3 : Bool} {S : St} {T : List C} {y : X} (h : Dn S0 f0 a b3 S T y) (G' : Good S) (Gy : Good y.S) (I : Inv S0 f0) (G : Good S0) (N : T9.Good f0) (ha : (M.gc S0 a).k ≠ 0) (k o : Int) (hc : 0 < cnt S0 k o) : tn T k o = if cnt S k o = 0 then 1 else 0 := by
  rw [h.T, cnt_congr G' Gy h.gc]
  have hr := h.run
  cases b3 with
  | true => exact rev_told I G N hr k o hc
  | false => exact del_told I G N ha hr k o hc
end M
/-! ### Two Caps -/
theorem Cs.far {w0 w w' : World} {O OX : Nat → Prop} {p s t m : Nat} {S : St} {f : T9.Fo} (h : Cs w0 w O p s t m S f) (F : Fr OX w w') (hd : ∀ i, O i → ¬ OX i) (hl : ∀ i, OX i → w0.heap.size ≤ i) : Cs w0 w' O p s t m S f := by
  obtain ⟨OS, OT, h1, h2, h3, h4, h5⟩ := h.ex
  refine ⟨⟨OS, OT, h1.fr F (fun i hi => hd i (h4 i hi).1), h2.fr F (fun i hi => hd i (h5 i hi).1), h3, h4, h5⟩, (F.block p h.plt (hd p h.op)).trans h.box, h.op, fun i hi => ⟨(h.lo i hi).1, Nat.lt_of_lt_of_le (h.lo i hi).2 F.size⟩, ?_, h.gs, h.gt⟩
  have := h.gr.size
  exact ((Fr.grown (O := OX) h.gr).trans F).new (fun i hi e => by have := hl i e; omega)
structure Tb (w wr : World) (Oa Ob : Nat → Prop) (pa sa ta pb sb tb : Nat) (S : St) (f : T9.Fo) (S0 : St) (f0 : T9.Fo) (X : Nat) (A B : Int) (vk : Value) (KL : List C) (vt : Value) (T : List C) : Prop where
  ca : Cs w wr Oa pa sa ta 3 S f
  cb : Cs w wr Ob pb sb tb 3 S0 f0
  dj : ∀ i, Ob i → ¬ Oa i
  sx : SBox wr X A B
  xa : ¬ Oa X
  xb : ¬ Ob X
  kl : TL wr w.heap.size vk KL
  ka : ∀ k, vk.ownBlock = some k → ¬ Oa k ∧ ¬ Ob k ∧ k ≠ X
  tl : TL wr w.heap.size vt T
  ta' : ∀ k, vt.ownBlock = some k → ¬ Oa k ∧ ¬ Ob k ∧ k ≠ X ∧ vk.ownBlock ≠ some k
namespace Tb
variable {w wr wd : World} {Oa Ob Od : Nat → Prop} {pa sa ta pb sb tb : Nat} {S S' : St} {f f' : T9.Fo} {S0 S1 : St} {f0 f1 : T9.Fo} {X : Nat} {A B : Int} {vk vk' : Value} {KL KL' : List C} {vt vt' : Value} {T T' : List C}
theorem kept (h : Tb w wr Oa Ob pa sa ta pb sb tb S f S0 f0 X A B vk KL vt T) (g : wr.grownBy wd none) : Tb w wd Oa Ob pa sa ta pb sb tb S f S0 f0 X A B vk KL vt T :=
  ⟨h.ca.kept g, h.cb.kept g, h.dj, h.sx.kept g, h.xa, h.xb, h.kl.kept g, h.ka, h.tl.kept g, h.ta'⟩
theorem other {y : Nat} (h : Tb w wr Oa Ob pa sa ta pb sb tb S f S0 f0 X A B vk KL vt T) (g : wr.grownBy wd (some y)) (ya : ¬ Oa y) (yb : ¬ Ob y) (yx : X ≠ y) (yk : vk.ownBlock ≠ some y) (yt : vt.ownBlock ≠ some y) (lo : w.heap.size ≤ y) : Tb w wd Oa Ob pa sa ta pb sb tb S f S0 f0 X A B vk KL vt T :=
  ⟨h.ca.keep g ya lo, h.cb.keep g yb lo, h.dj, h.sx.keep g yx, h.xa, h.xb, h.kl.keep g (fun k hk e => yk (by rw [hk, e])), h.ka, h.tl.keep g (fun k hk e => yt (by rw [hk, e])), h.ta'⟩
theorem appK (h : Tb w wr Oa Ob pa sa ta pb sb tb S f S0 f0 X A B vk KL vt T) (g : wr.grownBy wd vk.ownBlock) (a : TL wd w.heap.size vk' KL') (o : vk'.ownBlock = vk.ownBlock ∨ vk'.ownBlock = some wr.heap.size) : Tb w wd Oa Ob pa sa ta pb sb tb S f S0 f0 X A B vk' KL' vt T := by
  have base : Cs w wd Oa pa sa ta 3 S f ∧ Cs w wd Ob pb sb tb 3 S0 f0 ∧ SBox wd X A B ∧ TL wd w.heap.size vt T := by
    cases e : vk.ownBlock with
    | none => rw [e] at g; exact ⟨h.ca.kept g, h.cb.kept g, h.sx.kept g, h.tl.kept g⟩
    | some y =>
      rw [e] at g
      obtain ⟨k1, k2, k3⟩ := h.ka y e
      have lo := (h.kl.lt y e).1
      exact ⟨h.ca.keep g k1 lo, h.cb.keep g k2 lo, h.sx.keep g (Ne.symm k3), h.tl.keep g (fun k hk e' => (h.ta' k hk).2.2.2 (by rw [e, e']))⟩
  refine ⟨base.1, base.2.1, h.dj, base.2.2.1, h.xa, h.xb, a, fun k hk => ?_, base.2.2.2, fun k hk => ⟨(h.ta' k hk).1, (h.ta' k hk).2.1, (h.ta' k hk).2.2.1, fun e => ?_⟩⟩
  · rcases o with o | o
    · rw [o] at hk; exact h.ka k hk
    · rw [o] at hk; cases hk
      exact ⟨fun e => by have := (h.ca.lo _ e).2; omega, fun e => by have := (h.cb.lo _ e).2; omega, fun e => by have := h.sx.lt; omega⟩
  · rcases o with o | o
    · rw [o] at e; exact (h.ta' k hk).2.2.2 e
    · rw [o] at e; cases e; have := (h.tl.lt _ hk).2; omega
theorem appT (h : Tb w wr Oa Ob pa sa ta pb sb tb S f S0 f0 X A B vk KL vt T) (g : wr.grownBy wd vt.ownBlock) (a : TL wd w.heap.size vt' T') (o : vt'.ownBlock = vt.ownBlock ∨ vt'.ownBlock = some wr.heap.size) : Tb w wd Oa Ob pa sa ta pb sb tb S f S0 f0 X A B vk KL vt' T' := by
  have base : Cs w wd Oa pa sa ta 3 S f ∧ Cs w wd Ob pb sb tb 3 S0 f0 ∧ SBox wd X A B ∧ TL wd w.heap.size vk KL := by
    cases e : vt.ownBlock with
    | none => rw [e] at g; exact ⟨h.ca.kept g, h.cb.kept g, h.sx.kept g, h.kl.kept g⟩
    | some y =>
      rw [e] at g
      obtain ⟨k1, k2, k3, k4⟩ := h.ta' y e
      have lo := (h.tl.lt y e).1
      exact ⟨h.ca.keep g k1 lo, h.cb.keep g k2 lo, h.sx.keep g (Ne.symm k3), h.kl.keep g (fun k hk e' => k4 (by rw [hk, e']))⟩
  refine ⟨base.1, base.2.1, h.dj, base.2.2.1, h.xa, h.xb, base.2.2.2, h.ka, a, fun k hk => ?_⟩
  rcases o with o | o
  · rw [o] at hk; exact h.ta' k hk
  · rw [o] at hk; cases hk
    exact ⟨fun e => by have := (h.ca.lo _ e).2; omega, fun e => by have := (h.cb.lo _ e).2; omega, fun e => by have := h.sx.lt; omega, fun e => by have := (h.kl.lt _ e).2; omega⟩
theorem calla (h : Tb w wr Oa Ob pa sa ta pb sb tb S f S0 f0 X A B vk KL vt T) (C' : Cs w wd Od pa sa ta 3 S' f') (F : Fr Oa wr wd) (hs : ∀ i, Od i → Oa i ∨ wr.heap.size ≤ i) : Tb w wd Od Ob pa sa ta pb sb tb S' f' S0 f0 X A B vk KL vt T := by
  have no : ∀ i, i < wr.heap.size → ¬ Oa i → ¬ Od i := fun i hi h1 h2 => by
    rcases hs i h2 with e | e
    · exact h1 e
    · omega
  exact ⟨C', h.cb.far F (fun i hi => h.dj i hi) (fun i hi => (h.ca.lo i hi).1), fun i hi => no i (h.cb.lo i hi).2 (h.dj i hi), F.sbox h.sx h.xa, no X h.sx.lt h.xa, h.xb, h.kl.fr F (fun k hk => (h.ka k hk).1), fun k hk => ⟨no k (h.kl.lt k hk).2 (h.ka k hk).1, (h.ka k hk).2⟩, h.tl.fr F (fun k hk => (h.ta' k hk).1), fun k hk => ⟨no k (h.tl.lt k hk).2 (h.ta' k hk).1, (h.ta' k hk).2⟩⟩
theorem callb (h : Tb w wr Oa Ob pa sa ta pb sb tb S f S0 f0 X A B vk KL vt T) (C' : Cs w wd Od pb sb tb 3 S1 f1) (F : Fr Ob wr wd) (hs : ∀ i, Od i → Ob i ∨ wr.heap.size ≤ i) : Tb w wd Oa Od pa sa ta pb sb tb S f S1 f1 X A B vk KL vt T := by
  have no : ∀ i, i < wr.heap.size → ¬ Ob i → ¬ Od i := fun i hi h1 h2 => by
    rcases hs i h2 with e | e
    · exact h1 e
    · omega
  refine ⟨h.ca.far F (fun i hi e => h.dj i e hi) (fun i hi => (h.cb.lo i hi).1), C', fun i hi e => ?_, F.sbox h.sx h.xb, h.xa, no X h.sx.lt h.xb, h.kl.fr F (fun k hk => (h.ka k hk).2.1), fun k hk => ⟨(h.ka k hk).1, no k (h.kl.lt k hk).2 (h.ka k hk).2.1, (h.ka k hk).2.2⟩, h.tl.fr F (fun k hk => (h.ta' k hk).2.1), fun k hk => ⟨(h.ta' k hk).1, no k (h.tl.lt k hk).2 (h.ta' k hk).2.1, (h.ta' k hk).2.2⟩⟩
  exact no i (h.ca.lo i e).2 (fun k => h.dj i k e) hi
end Tb
/-- .. with the slots that are full ahead, and the map. -/
structure T1 (w wr : World) (Oa Ob : Nat → Prop) (pa sa ta pb sb tb : Nat) (S : St) (f : T9.Fo) (S0 : St) (f0 : T9.Fo) (X : Nat) (A B : Int) (vk : Value) (KL : List C) (vf : Value) (F : List (Int × Int)) (mb : Nat) : Prop where
  tb : Tb w wr Oa Ob pa sa ta pb sb tb S f S0 f0 X A B vk KL (.slice none 0 0) []
  km : KM wr mb
  ma : ¬ Oa mb
  mob : ¬ Ob mb
  mx : X ≠ mb
  mky : vk.ownBlock ≠ some mb
  lo : w.heap.size ≤ mb
  lf : LB wr Oa vf F
  fm : vf.ownBlock ≠ some mb
  fk : ∀ k, vf.ownBlock = some k → vk.ownBlock ≠ some k
namespace T1
variable {w wr wd : World} {Oa Ob : Nat → Prop} {pa sa ta pb sb tb : Nat} {S : St} {f : T9.Fo} {S0 : St} {f0 : T9.Fo} {X : Nat} {A B : Int} {vk vk' : Value} {KL KL' : List C} {vf : Value} {F : List (Int × Int)} {mb : Nat}
theorem kept (h : T1 w wr Oa Ob pa sa ta pb sb tb S f S0 f0 X A B vk KL vf F mb) (g : wr.grownBy wd none) : T1 w wd Oa Ob pa sa ta pb sb tb S f S0 f0 X A B vk KL vf F mb :=
  ⟨h.tb.kept g, h.km.block (g.block mb h.km.lt (by simp)), h.ma, h.mob, h.mx, h.mky, h.lo, h.lf.kept g, h.fm, h.fk⟩
theorem map (h : T1 w wr Oa Ob pa sa ta pb sb tb S f S0 f0 X A B vk KL vf F mb) (g : wr.grownBy wd (some mb)) (k : KM wd mb) : T1 w wd Oa Ob pa sa ta pb sb tb S f S0 f0 X A B vk KL vf F mb :=
  ⟨h.tb.other g h.ma h.mob h.mx h.mky (by intro e; cases e) h.lo, k, h.ma, h.mob, h.mx, h.mky, h.lo, ⟨h.lf.ls.block (fun k hk => g.block k (h.lf.ls.lt k hk).2 (fun e => h.fm (by cases e; exact hk))), h.lf.no⟩, h.fm, h.fk⟩
theorem app (h : T1 w wr Oa Ob pa sa ta pb sb tb S f S0 f0 X A B vk KL vf F mb) (g : wr.grownBy wd vk.ownBlock) (a : TL wd w.heap.size vk' KL') (o : vk'.ownBlock = vk.ownBlock ∨ vk'.ownBlock = some wr.heap.size) : T1 w wd Oa Ob pa sa ta pb sb tb S f S0 f0 X A B vk' KL' vf F mb := by
  have hb : wd.heap[mb]? = wr.heap[mb]? := by
    refine g.block mb h.km.lt (fun e => h.mky e.symm)
  refine ⟨h.tb.appK g a o, h.km.block hb, h.ma, h.mob, h.mx, fun e => ?_, h.lo, ⟨h.lf.ls.block (fun k hk => g.block k (h.lf.ls.lt k hk).2 (fun e => h.fk k hk e.symm)), h.lf.no⟩, h.fm, fun k hk e => ?_⟩
  · rcases o with o | o
    · rw [o] at e; exact h.mky e
    · rw [o] at e; cases e; have := h.km.lt; omega
  · rcases o with o | o
    · rw [o] at e; exact h.fk k hk e
    · rw [o] at e; cases e; have := (h.lf.ls.lt _ hk).2; omega
end T1
end Go.Proofs.Ytpfjcfgbecoccaa
