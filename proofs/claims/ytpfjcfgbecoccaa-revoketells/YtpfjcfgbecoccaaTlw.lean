/-
  ROUND BY ROUND, PLAINLY (RevokeTells): what holds ahead of each call with few steps, and behind the last. A list of capabilities appended to another. Speaks of no function of package revoke.
-/
import Derived.Test.YtpfjcfgbecoccaaKmap
namespace Go.Proofs.Ytpfjcfgbecoccaa
set_option maxRecDepth 10000
open Go.RowKit Go.Maps
set_option linter.unusedVariables false
theorem KE.km {w : World} {b born : Nat} (h : KE w b born) : KM w b := by
  obtain ⟨es, c, h1, h2, _⟩ := h
  exact ⟨es, c, h1, h2⟩
theorem run_append_tl11 (w : World) (B B' : Nat) (v tv : Value) (T K : List C) (h : TL w B v T) (k : TL w B' tv K) (hn : T.length + K.length ≤ 100000) (hB : B ≤ w.heap.size) :
    ∃ tx tn tc v' w', tv = .slice tx tn tc ∧ (Builtin.append_ #[40, 40] 40 #[v, .slice tx tn tc]).run Try.prog w = .ok v' w' ∧ TL w' B v' (T ++ K) ∧ w.grownBy w' v.ownBlock ∧ (v'.ownBlock = v.ownBlock ∨ v'.ownBlock = some w.heap.size) := by
  rcases k.form with ⟨rfl, rfl⟩ | ⟨g, cap, rfl, _, _, _, _, hc⟩
  · obtain ⟨v', w', h1, h2⟩ := run_append_caps w B v T h 40 none 0 0 [] rfl (fun _ => rfl) (fun _ e => by cases e) (by omega) hB
    exact ⟨_, _, _, v', w', rfl, h1, h2⟩
  · obtain ⟨v', w', h1, h2⟩ := run_append_caps w B v T h 40 (some ⟨g, 0, none⟩) K.length cap K rfl (fun e => by cases e) (fun ad e => by cases e; exact hc) hn hB
    exact ⟨_, _, _, v', w', rfl, h1, h2⟩
theorem TL.slice {w : World} {B : Nat} {v : Value} {T : List C} (h : TL w B v T) : ∃ x c, v = .slice x T.length c := by
  rcases h.form with ⟨rfl, rfl⟩ | ⟨g, cap, rfl, _⟩
  · exact ⟨_, _, rfl⟩
  · exact ⟨_, _, rfl⟩
theorem TL.some {w : World} {B n c : Nat} {x : Option Addr} {T : List C} (h : TL w B (.slice x n c) T) (h0 : 0 < n) : ∃ g, x = some ⟨g, 0, none⟩ := by
  rcases h.form with ⟨e, _⟩ | ⟨g, cap, e, _⟩
  · injection e with e1 e2; omega
  · injection e with e1; exact ⟨g, e1⟩
/-! ### The operations of 'm[k]++' as steps of a region that draws -/
theorem step_entry {P : Program} {ops : Array Oper} {o : Oper} {a : Act} {w w' : World} {K : Act → World → Prop} {Q : Exit → Act → World → Prop} {E : Prop} (hg : o.guard = none) (t : TypeId) (m k : Operand) (hop : o.op = Op.mapEntry t m k)
    (vm vk v : Value) (hm : a.eval m = vm) (hk : a.eval k = vk) (hr : (Instr.mapEntry t vm vk).run P w = .ok v w') (hK : K (a.put o.dst v) w') : if Region.wanted o (yielded ops a.tmps) = true then Oper.wp P o a w K Q else E := by
  have hw : Region.wanted o (yielded ops a.tmps) = true := by simp [Region.wanted, hg]
  rw [if_pos hw]
  unfold Oper.wp
  simp [execOp, hop, hm, hk, hr, Result.andThen]
  exact hK
theorem step_look {P : Program} {ops : Array Oper} {o : Oper} {a : Act} {w : World} {K : Act → World → Prop} {Q : Exit → Act → World → Prop} {E : Prop} (hg : o.guard = none) (t : TypeId) (m k : Operand) (hop : o.op = Op.lookup t m k false)
    (vm vk v : Value) (hm : a.eval m = vm) (hk : a.eval k = vk) (hr : (Instr.lookup t vm vk false).run P w = .ok v w) (hK : K (a.put o.dst v) w) : if Region.wanted o (yielded ops a.tmps) = true then Oper.wp P o a w K Q else E := by
  have hw : Region.wanted o (yielded ops a.tmps) = true := by simp [Region.wanted, hg]
  rw [if_pos hw]
  unfold Oper.wp
  simp [execOp, hop, hm, hk, hr, Result.andThen]
  exact hK
theorem step_estore {P : Program} {ops : Array Oper} {o : Oper} {a : Act} {w w' : World} {K : Act → World → Prop} {Q : Exit → Act → World → Prop} {E : Prop} (hg : o.guard = none) (t : TypeId) (m s x : Operand) (hop : o.op = Op.entryStore t m s x)
    (vm vs vx : Value) (hm : a.eval m = vm) (hs : a.eval s = vs) (hx : a.eval x = vx) (hr : (Instr.entryStore t vm vs vx).run P w = .ok () w') (hK : K (a.put o.dst undef) w') : if Region.wanted o (yielded ops a.tmps) = true then Oper.wp P o a w K Q else E := by
  have hw : Region.wanted o (yielded ops a.tmps) = true := by simp [Region.wanted, hg]
  rw [if_pos hw]
  unfold Oper.wp
  simp [execOp, hop, hm, hs, hx, hr, Result.andThen, Oper.upon]
  exact hK
namespace M
/-- Ahead of a call with few steps. -/
structure Lw (b3 : Bool) (S0 : St) (f0 : T9.Fo) (a : Int × Int) (S : St) (f : T9.Fo) (T : List C) (m c : Nat) : Prop where
  inv : Inv S f
  at_ : gc S a = gc S0 a
  fw : b3 = false → Fw S0 f0 a S f T m ∧ 1000 ≤ m + 5 * c
  rv : b3 = true → Rw S0 f0 a S f ∧ T = []
theorem Lw.start {b3 : Bool} {S0 : St} {f0 : T9.Fo} {a : Int × Int} (I : Inv S0 f0) (s : Sm S0 f0 a) (hm : f0.len ≤ 1000) : Lw b3 S0 f0 a S0 f0 [] 1000 0 :=
  ⟨I, rfl, fun _ => ⟨Fw.start S0 f0 a hm, by omega⟩, fun _ => ⟨Rw.start s, rfl⟩⟩
theorem Lw.del {S0 : St} {f0 : T9.Fo} {a : Int × Int} {S : St} {f : T9.Fo} {T : List C} {m c : Nat} (h : Lw false S0 f0 a S f T m c) (G : Good S) (N : T9.Good f) (ha : (gc S a).k ≠ 0) (hc : c ≤ 50) {l : Nat} (h6 : l < 6) {q : Bool} {y : X} (hr : delR S f a (l : Int) = (q, y)) :
    (q = true → Lw false S0 f0 a y.S y.f (T ++ y.T) (m - l) (c + 1) ∧ y.f.len + l = f.len) ∧ (q = false → ∃ y', Dn S0 f0 a false y.S (T ++ y.T) y') ∧ (T ++ y.T).length + y.f.len ≤ T.length + f.len := by
  obtain ⟨h1, h2⟩ := h.fw rfl
  have D := del_one h.inv G N ha hr
  obtain ⟨k1, k2⟩ := h1.more h.inv G N ha (by omega) hr
  have K := away_kp (n := f.len) (x := ⟨S, f, l, []⟩) (a := a) (L := []) ⟨h.inv, G, N⟩ ha (by simp) (by rw [free_nil]; exact Nat.le_refl _)
  have hr' : away f.len ⟨S, f, l, []⟩ a [] = (q, y) := by
    unfold delR at hr; rw [Int.toNat_natCast] at hr; exact hr
  rw [hr'] at K
  refine ⟨fun hq => ?_, fun hq => ?_, ?_⟩
  · obtain ⟨d1, d2⟩ := D.more hq
    exact ⟨⟨D.ok.i, d1.trans h.at_, fun _ => ⟨k1 hq, by omega⟩, fun e => by cases e⟩, d2⟩
  · obtain ⟨l', hl'⟩ := k2 hq
    exact ⟨_, Dn.del hl'⟩
  · have t := K.tl
    have n := K.len
    simp only [List.length_nil] at t n
    rw [List.length_append]
    omega
theorem Lw.rev {S0 : St} {f0 : T9.Fo} {a : Int × Int} {S : St} {f : T9.Fo} {T : List C} {m c : Nat} (h : Lw true S0 f0 a S f T m c) (I0 : Inv S0 f0) (G0 : Good S0) (N0 : T9.Good f0) (hm : f0.len ≤ 1000) (s : Sm S0 f0 a) (G : Good S) (N : T9.Good f) (ha : (gc S a).k ≠ 0) {l : Nat} {q : Bool} {y : X} (hr : revR S f a (l : Int) = (q, y)) :
    (q = true → Lw true S0 f0 a y.S y.f (T ++ y.T) m (c + 1) ∧ y.f.len + l = f.len) ∧ (q = false → ∃ y', Dn S0 f0 a true y.S (T ++ y.T) y') ∧ (T ++ y.T).length + y.f.len ≤ T.length + f.len := by
  obtain ⟨h1, h2⟩ := h.rv rfl
  have R := rev_one h.inv G N ha h1.sm hr
  have n := h1.next h.inv G N ha hr
  have ha0 : (gc S0 a).k ≠ 0 := by rw [← h.at_]; exact ha
  refine ⟨fun hq => ⟨⟨R.ok.i, R.at_.trans h.at_, (fun e => by cases e), fun _ => ⟨n, by rw [h2, R.T]; rfl⟩⟩, R.more hq⟩, fun hq => ?_, ?_⟩
  · rw [h2, R.T]
    exact Dn.rev I0 G0 N0 ha0 s hm n (R.done hq)
  · rw [R.T, List.append_nil]
    have := R.le
    omega
theorem tn_le (T : List C) (k o : Int) : tn T k o ≤ T.length := List.length_filter_le _ _
theorem tn_step {T : List C} {e : Nat} {c : C} (h : T[e]? = some c) (k o : Int) : tn (T.take (e + 1)) k o = tn (T.take e) k o + if c.k == k && c.o == o then 1 else 0 := by
  unfold tn
  rw [List.take_add_one, h]
  simp only [Option.toList, List.filter_append, List.length_append]
  rw [List.filter_cons]
  split <;> rfl
end M
end Go.Proofs.Ytpfjcfgbecoccaa
