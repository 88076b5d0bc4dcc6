/-
  WHERE ALL THAT COMES OF A SLOT IS OF ITS OWN OBJECT, PLAINLY: nothing of it is final, each goes by a step of its own. Speaks of no function of the program.
-/
import Derived.Test.YtpfjcfgbecoccaaWqs
namespace Go.Proofs.Ytpfjcfgbecoccaa
set_option maxRecDepth 10000
set_option linter.unusedVariables false
namespace M
theorem sub_drop11 {s x : Int × Int} {g : T9.Fo} (hn : g.pre.Nodup) (hx : x ≠ s) : (T9.Fo.drop s g).sub x = (g.sub x).map (T9.Fo.drop s) := by
  induction g using T9.Fo.ind with
  | nil => rfl
  | node bb oo a d r ihd ihr =>
    obtain ⟨h1, h2, h3, h4, h5⟩ := T9.Fo.nodup_node.1 hn
    simp only [T9.Fo.drop]
    by_cases ea : a = s
    · subst ea
      rw [if_pos rfl, T9.Fo.sub_app]
      simp only [T9.Fo.sub]
      rw [if_neg (Ne.symm hx), Option.map_or]
      congr 1
      · cases hd : d.sub x with
        | none => rfl
        | some e => simp only [Option.map_some]; rw [T9.Fo.drop_out (fun hc => h1 (T9.Fo.sub_pre hd hc))]
      · cases hr : r.sub x with
        | none => rfl
        | some e => simp only [Option.map_some]; rw [T9.Fo.drop_out (fun hc => h2 (T9.Fo.sub_pre hr hc))]
    · rw [if_neg ea]
      simp only [T9.Fo.sub]
      split
      · rfl
      · rw [ihd h3, ihr h4, Option.map_or]
theorem sub_nodup {f d : T9.Fo} {a : Int × Int} (hn : f.pre.Nodup) (h : f.sub a = some d) : d.pre.Nodup := by
  induction f using T9.Fo.ind with
  | nil => cases h
  | node bb oo x e r ihe ihr =>
    obtain ⟨h1, h2, h3, h4, h5⟩ := T9.Fo.nodup_node.1 hn
    simp only [T9.Fo.sub] at h
    split at h
    · cases h; exact h3
    · cases he : e.sub a with
      | some e' => rw [he] at h; simp at h; subst h; exact ihe h3 he
      | none => rw [he] at h; simp at h; exact ihr h4 h
theorem kin_drop {f : T9.Fo} (hn : f.pre.Nodup) {s x : Int × Int} (hx : x ≠ s) : (T9.Fo.drop s f).kin x = (f.kin x).filter (· != s) := by
  unfold T9.Fo.kin
  rw [sub_drop11 hn hx]
  cases h : f.sub x with
  | none => rfl
  | some d => simp only [Option.map_some]; exact T9.Fo.pre_drop (sub_nodup hn h)
theorem kin_self {f : T9.Fo} (hn : f.pre.Nodup) (x : Int × Int) : x ∉ f.kin x := by
  unfold T9.Fo.kin
  cases h : f.sub x with
  | none => simp
  | some d => exact sub_not hn h
theorem kin_nodup {f : T9.Fo} (hn : f.pre.Nodup) (x : Int × Int) : (f.kin x).Nodup := by
  unfold T9.Fo.kin
  cases h : f.sub x with
  | none => simp
  | some d => exact sub_nodup hn h
theorem cnt_two {S : St} (G : Good S) {a b : Int × Int} (hne : a ≠ b) (ha : (gc S a).k ≠ 0) {k o : Int} (h1 : (gc S a).k = k ∧ (gc S a).o = o) (h2 : (gc S b).k = k ∧ (gc S b).o = o) : 2 ≤ cnt S k o := by
  unfold cnt cntL
  refine subs_len [a, b] _ (by simp [hne]) (fun y hy => ?_)
  have hh : ∀ z, (gc S z).k = k ∧ (gc S z).o = o → z ∈ (full S).filter (hit S k o) := fun z hz => by
    refine List.mem_filter.2 ⟨(mem_full G z).2 (by rw [hz.1, ← h1.1]; exact ha), ?_⟩
    unfold hit
    have e1 : (getC S z.1 z.2).k = k := hz.1
    have e2 : (getC S z.1 z.2).o = o := hz.2
    simp [e1, e2]
  simp only [List.mem_cons, List.not_mem_nil, or_false] at hy
  rcases hy with rfl | rfl
  · exact hh _ h1
  · exact hh _ h2
theorem fin_not {S : St} (G : Good S) {a b : Int × Int} (hne : a ≠ b) (ha : (gc S a).k ≠ 0) (h : (gc S b).k = (gc S a).k ∧ (gc S b).o = (gc S a).o) : fin S b = false := by
  have := cnt_two G hne ha ⟨rfl, rfl⟩ h
  unfold fin
  rw [h.1, h.2]
  simp; omega
/-- All that comes of a slot is of its object. -/
def Sm (S : St) (f : T9.Fo) (a : Int × Int) : Prop := ∀ b ∈ f.kin a, (gc S b).k = (gc S a).k ∧ (gc S b).o = (gc S a).o
theorem fin_kin {x : X} (h : Ok x) {a b : Int × Int} (ha : (gc x.S a).k ≠ 0) (s : Sm x.S x.f a) (hb : b ∈ x.f.kin a) : fin x.S b = false :=
  fin_not h.s (fun e => kin_self h.t.nd a (by rw [← e] at hb; exact hb)) ha (s b hb)
theorem away_fin {n : Nat} {x : X} {b : Int × Int} {L : List (Int × Int)} (h : fin x.S b = false) : away (n + 1) x b L = stp x b := by
  refine away_none ?_
  unfold ahd
  rw [h]; simp
theorem one_fin {x : X} {b : Int × Int} (h : fin x.S b = false) : one x b = ⟨takS x.S b, takF x.S x.f b, x.l - 1, x.T⟩ := by
  unfold one fall
  rw [h]; rfl
theorem th_tak (S : St) (b s : Int × Int) : th (takS S b) s = th S s := by
  unfold takS takeS
  split
  · exact th_up S b C.zero s
  · rfl
/-- What comes of it. -/
structure Rs (x : X) (a : Int × Int) (r : Bool × X) : Prop where
  q : r.1 = decide (x.l < (x.f.kin a).length)
  kin : r.2.f.kin a = (x.f.kin a).take ((x.f.kin a).length - x.l)
  T : r.2.T = x.T
  l : r.2.l = x.l - (x.f.kin a).length
  gc : ∀ s, M.gc r.2.S s = if s ∈ (x.f.kin a).drop ((x.f.kin a).length - x.l) then C.zero else M.gc x.S s
  th : ∀ s, M.th r.2.S s = M.th x.S s
  sm : Sm r.2.S r.2.f a
theorem Sm.one {x : X} (h : Ok x) {a b : Int × Int} (ha : (M.gc x.S a).k ≠ 0) (s : Sm x.S x.f a) (hb : b ∈ x.f.kin a) : Sm (one x b).S (one x b).f a ∧ M.gc (one x b).S a = M.gc x.S a ∧ (one x b).f.kin a = (x.f.kin a).filter (· != b) := by
  have hbk : (M.gc x.S b).k ≠ 0 := by rw [(s b hb).1]; exact ha
  have hs := srcE_yes hbk
  have hab : a ≠ b := fun e => kin_self h.t.nd a (by rw [← e] at hb; exact hb)
  have hg := fun z => gc_fall h.s b z hs
  have hk : (M.one x b).f.kin a = (x.f.kin a).filter (· != b) := by
    show (takF x.S x.f b).kin a = _
    unfold takF
    rw [if_pos hs, (tak_ok h.i hs).2, kin_drop h.t.nd hab]
  have h1 : M.gc (M.one x b).S a = M.gc x.S a := by
    show M.gc (fall x.S b) a = _
    rw [hg, if_neg hab]
  refine ⟨fun c hc => ?_, h1, hk⟩
  rw [hk, List.mem_filter] at hc
  rw [h1]
  show (M.gc (fall x.S b) c).k = _ ∧ _
  rw [show M.gc (M.one x b).S c = M.gc x.S c from (hg c).trans (if_neg (by simpa using hc.2))]
  rw [show M.gc (fall x.S b) c = M.gc x.S c from (hg c).trans (if_neg (by simpa using hc.2))]
  exact s c hc.1
theorem rvk_same : ∀ (n : Nat) (x : X) (a : Int × Int), Ok x → (gc x.S a).k ≠ 0 → Sm x.S x.f a → (x.f.kin a).length < n → Rs x a (rvk n x a)
  | 0, x, a, h, ha, s, hn => by omega
  | n + 1, x, a, h, ha, s, hn => by
    cases hk : (x.f.kin a).getLast? with
    | none =>
      rw [rvk_none hk]
      have e : x.f.kin a = [] := List.getLast?_eq_none_iff.1 hk
      refine ⟨?_, ?_, rfl, ?_, fun z => ?_, fun z => rfl, s⟩
      · rw [e]; simp
      · rw [e]; simp
      · rw [e]; rfl
      · rw [e]; simp
    | some b =>
      rw [rvk_some hk]
      have hb : b ∈ x.f.kin a := List.mem_of_getLast? hk
      have hbk : (gc x.S b).k ≠ 0 := by rw [(s b hb).1]; exact ha
      have hf := fin_kin h ha s hb
      obtain ⟨K, hK⟩ : ∃ K, x.f.kin a = K ++ [b] := by
        obtain ⟨K, e⟩ := List.getLast?_eq_some_iff.1 hk
        exact ⟨K, e⟩
      have hnd := kin_nodup h.t.nd a
      have hbK : b ∉ K := fun z => by
        rw [hK] at hnd
        exact (List.nodup_append.1 hnd).2.2 b z b (by simp) rfl
      have hl : 1 ≤ x.f.len := by
        unfold T9.Fo.len
        exact List.length_pos_of_mem (h.mem.2 hbk)
      obtain ⟨m, hm⟩ : ∃ m, x.f.len = m + 1 := ⟨x.f.len - 1, by omega⟩
      rw [hm, away_fin hf]
      unfold stp
      by_cases hx : x.l = 0
      · rw [if_pos hx]
        simp only
        have hlen : 0 < (x.f.kin a).length := by rw [hK]; simp
        exact ⟨by rw [hx]; simp [hlen], by rw [hx]; simp, rfl, by simp only; omega, fun z => by rw [hx]; simp, fun z => rfl, s⟩
      · rw [if_neg hx]
        simp only
        obtain ⟨s1, g1, k1⟩ := Sm.one h ha s hb
        have k2 : (one x b).f.kin a = K := by
          rw [k1, hK, List.filter_append, List.filter_cons_of_neg (by simp), List.filter_nil, List.append_nil]
          exact List.filter_eq_self.2 (fun y hy => by simp; rintro rfl; exact hbK hy)
        have R := rvk_same n (one x b) a (h.one hbk) (by rw [g1]; exact ha) s1 (by rw [k2]; rw [hK] at hn; simp at hn; omega)
        have l1 : (one x b).l = x.l - 1 := rfl
        have t1 : (one x b).T = x.T := by rw [one_fin hf]
        have hg := fun z => gc_fall h.s b z (srcE_yes hbk)
        have hi : ∀ z, gc (one x b).S z = if z = b then C.zero else gc x.S z := hg
        have hsub : (K ++ [b]).length - x.l = K.length - (x.l - 1) := by simp; omega
        refine ⟨?_, ?_, R.T.trans t1, ?_, fun z => ?_, fun z => ?_, R.sm⟩
        · rw [R.q, k2, l1, hK]; simp; omega
        · rw [R.kin, k2, l1, hK, hsub]
          rw [List.take_append_of_le_length (by omega)]
        · rw [R.l, k2, l1, hK]; simp; omega
        · rw [R.gc, k2, l1, hK, hsub, hi, List.drop_append_of_le_length (by omega)]
          by_cases e1 : z ∈ K.drop (K.length - (x.l - 1))
          · simp [e1]
          · by_cases e2 : z = b <;> simp [e1, e2]
        · rw [R.th]
          rw [one_fin hf]
          exact th_tak x.S b z
end M
end Go.Proofs.Ytpfjcfgbecoccaa
