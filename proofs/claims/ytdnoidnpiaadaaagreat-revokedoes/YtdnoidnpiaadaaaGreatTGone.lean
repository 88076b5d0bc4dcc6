/-
  THE CONTRACTS of package tree: Drop, Move.
-/
import Derived.Test.YtdnoidnpiaadaaaGreatG13
import Derived.Test.YtdnoidnpiaadaaaGreatG11
import Derived.Deep.RegionHeld3
namespace Go.Proofs.YtdnoidnpiaadaaaGreat
set_option maxRecDepth 10000
namespace T9
open Go.RowKit
set_option linter.unusedVariables false

/-- The blocks of the members and of their lists. -/
def tb (K : Int × Int → Option Nat) (V : Int × Int → Value) (i : Nat) : Prop := ∃ t q, K t = some q ∧ (i = q ∨ (V t).ownBlock = some i)
/-- Lists lie where they lay, or are new. -/
def NV (K : Int × Int → Option Nat) (V V' : Int × Int → Value) (w w' : World) : Prop := ∀ t g, K t ≠ none → (V' t).ownBlock = some g → (V t).ownBlock = some g ∨ (w.heap.size ≤ g ∧ g < w'.heap.size)
/-- The slots k stand where s stood among the children of o. -/
def M.repl (P : Vw) (o : Option (Int × Int)) (s : Int × Int) (k : List (Int × Int)) : Vw := fun t => if o = some t then (P t).map (fun y => (y.1, Fo.put y.2 s k)) else P t

theorem rep_any {W : World} {p b m q : Nat} {K : Int × Int → Option Nat} {V : Int × Int → Value} {P : Vw} (h : TA W p b m K V P) (n i : Int) (hn : I64 n) (hi : I64 i) (hk : K (n, i) = some q) (o : Option (Int × Int)) (l : List (Int × Int)) (hp : P (n, i) = some (o, l)) (vb : Value) (Kl : List (Int × Int)) (hb : Lst W 0 vb Kl) (hbl : Kl.length ≤ 1000)
    (hx : ∀ x, o = some x → I64 x.1 ∧ I64 x.2 ∧ ∃ y, P x = some y ∧ (n, i) ∈ y.2 ∧ y.2.Nodup ∧ y.2.length ≤ 1000 ∧ ∀ g, (V x).ownBlock = some g → vb.ownBlock ≠ some g) :
    Calls Tryz.prog 124 #[.pointer (some ⟨p, 0, none⟩), sv n i, vb] W fun e w' => e = .returned (.tuple #[]) ∧ ∃ V', TA w' p b m K V' (M.repl P o (n, i) Kl) ∧ Fr (tb K V) W w' ∧ NV K V V' W w' ∧ ∀ t, o ≠ some t → V' t = V t := by
  cases o with
  | none =>
    refine (rep_top (hideIt h) n i hn hi (hideIt hk) l (hideIt hp) vb).mono ?_
    rintro _ w1 ⟨rfl, g1⟩
    exact ⟨rfl, V, (h.kept g1).congr (fun t => by simp [M.repl]) rfl, Fr.grown g1, fun t g _ hg => .inl hg, fun _ _ => rfl⟩
  | some x =>
    obtain ⟨xn, xi⟩ := x
    obtain ⟨h1, h2, ⟨ox, lx⟩, hy, hin, hnd, hll, hne⟩ := hx _ rfl
    obtain ⟨qx, hqx, hmx, hlx⟩ := h.mem _ _ hy
    obtain ⟨g, cap, hv⟩ := hlx.shape rfl (List.length_pos_of_mem hin)
    obtain ⟨j, e1, e2, e3⟩ := Fo.put_at (k := Kl) hnd hin
    refine (rep_in (hideIt h) n i xn xi hn hi h1 h2 (hideIt hk) l (hideIt hp) (hideIt hqx) ox lx (hideIt hy) (hideIt hv) (hideIt rfl) hll (hideIt e1) (hideIt e2) rfl vb Kl (hideIt hb) (hideIt hbl) (hideIt (hne g (by rw [hv]; rfl)))).mono ?_
    rintro _ w1 ⟨rfl, v', ho, A, F⟩
    refine ⟨rfl, _, A.congr (fun t => ?_) rfl, F.mono (fun i' _ e => ?_), fun t g' ht hg' => ?_, fun t ht => ?_⟩
    · unfold M.repl
      by_cases e : t = (xn, xi)
      · rw [if_pos e, e, if_pos rfl, hy]
        simp [e3]
      · rw [if_neg e, if_neg (fun e2 => e (by cases e2; rfl))]
    · rcases e with rfl | rfl
      · exact ⟨_, _, hqx, .inl rfl⟩
      · exact ⟨_, _, hqx, .inr (by rw [hv]; rfl)⟩
    · by_cases e : t = (xn, xi)
      · simp only [if_pos e] at hg'
        rcases ho with ho | ho
        · rw [ho] at hg'
          cases hg'
          exact .inl (by rw [e, hv]; rfl)
        · exact .inr (ho g' hg')
      · simp only [if_neg e] at hg'
        exact .inl hg'
    · simp only [if_neg (show ¬ t = (xn, xi) from fun e => ht (by rw [e]))]

theorem TA.tb_lt {w : World} {p b n : Nat} {K : Int × Int → Option Nat} {V : Int × Int → Value} {P : Vw} (h : TA w p b n K V P) {i : Nat} (hi : tb K V i) : i < w.heap.size := by
  obtain ⟨t, q, hq, e⟩ := hi
  obtain ⟨y, _, hm, hl⟩ := h.has hq
  rcases e with rfl | e
  · exact hm.lt
  · exact (hl.lt _ e).2
theorem own_tb {L : List (Int × Int)} {K : Int × Int → Option Nat} {V : Int × Int → Value} {i : Nat} (h : M.own L K i) : tb K V i := by
  obtain ⟨c, _, e⟩ := h
  exact ⟨c, i, e, .inl rfl⟩

set_option maxHeartbeats 400000 in
theorem drop_none {w : World} {p b m : Nat} {K : Int × Int → Option Nat} {V : Int × Int → Value} {P : Vw} (h : Hid (TA w p b m K V P)) (n i : Int) (hn : I64 n) (hi : I64 i) (hk : Hid (K (n, i) = none)) :
    Calls Tryz.prog 96 #[.pointer (some ⟨p, 0, none⟩), sv n i] w fun e w' => e = .returned (.int .i64 3) ∧ w.grownBy w' none := by
  go_enter Tryz.func96, Tryz.ntmps96
  go_upto_region 1 with fail
  obtain ⟨W, hW, X, g0⟩ := sboxNew w n i
  rw [hW]
  clear hW
  obtain ⟨c0, x0, x1, hl⟩ := Reads.mk' (h.out.kept g0) hn hi X hk.out
  refine wp_region_grown (by kernel_rfl) (by kernel_rfl) fun _ => ?_
  repeat (go_big_quiet_step (fail))
  refine wpQuiet_nil ?_
  rintro w1 ⟨⟨_, g1⟩, rfl⟩
  go_wp2
  go_ret
  exact ⟨rfl, gbTrans g0 g1⟩

/-- A member's cells. -/
abbrev Q4 (w : World) (q : Nat) (on oa : Int) (ob : Bool) (v : Value) : Prop := w.cell? ⟨q, 0, none⟩ = some (.int .i64 on) ∧ w.cell? ⟨q, 1, none⟩ = some (.int .i64 oa) ∧ w.cell? ⟨q, 2, none⟩ = some (.bool ob) ∧ w.cell? ⟨q, 3, none⟩ = some v
theorem MemAt.q4 {w : World} {q : Nat} {o : Option (Int × Int)} {v : Value} (h : MemAt w q o v) {on oa : Int} {ob : Bool} (ho : oN o = on ∧ oA o = oa ∧ oB o = ob) : Q4 w q on oa ob v := by
  obtain ⟨rfl, rfl, rfl⟩ := ho
  exact ⟨h.c0, h.c1, h.c2, h.c3⟩

set_option maxRecDepth 10000 in
set_option maxHeartbeats 1000000 in
theorem drop_core {w : World} {p b m q : Nat} {K : Int × Int → Option Nat} {V : Int × Int → Value} {P : Vw} (h : Hid (TA w p b (m + 1) K V P)) (n i : Int) (hn : I64 n) (hi : I64 i) (hk : Hid (K (n, i) = some q)) (on oa : Int) (ob : Bool) (o : Option (Int × Int)) (ho : Hid (oN o = on ∧ oA o = oa ∧ oB o = ob)) (l : List (Int × Int)) (hp : Hid (P (n, i) = some (o, l))) (v : Value) (hv : Hid (V (n, i) = v))
    (hll : Hid (l.length ≤ 1000)) (hin : Hid (∀ c ∈ l, I64 c.1 ∧ I64 c.2 ∧ P c ≠ none)) (hsl : Hid ((n, i) ∉ l))
    (hx : Hid (∀ x, o = some x → I64 x.1 ∧ I64 x.2 ∧ x ∉ l ∧ x ≠ (n, i) ∧ ∃ y, P x = some y ∧ (n, i) ∈ y.2 ∧ y.2.Nodup ∧ y.2.length ≤ 1000)) :
    Calls Tryz.prog 96 #[.pointer (some ⟨p, 0, none⟩), sv n i] w fun e w' => e = .returned (.int .i64 0) ∧ ∃ V', TA w' p b m (fun t => if t = (n, i) then none else K t) V' (fun t => if t = (n, i) then none else M.repl (M.adp P l o) o (n, i) l t) ∧ Fr (fun j => j = b ∨ tb K V j) w w' ∧ NV K V V' w w' := by
  go_enter Tryz.func96, Tryz.ntmps96
  go_upto_region 1 with fail
  obtain ⟨W, hW, X, g0⟩ := sboxNew w n i
  rw [hW]
  clear hW
  obtain ⟨c0, x0, x1, hl⟩ := Reads.mk' (h.out.kept g0) hn hi X hk.out
  refine wp_region_grown (by kernel_rfl) (by kernel_rfl) fun _ => ?_
  repeat (go_big_quiet_step (fail))
  refine wpQuiet_nil ?_
  rintro w1 ⟨⟨_, g1⟩, rfl⟩
  clear c0 x0 x1 hl
  have G1 := gbTrans g0 g1
  have A1 := hideIt (h.out.kept G1)
  obtain ⟨y, hy, hm, hlv⟩ := A1.out.has hk.out
  rw [hp.out] at hy; cases hy
  rw [hv.out] at hm hlv
  have X1 := X.kept g1
  have T0 : Q4 w1.drew q on oa ob v := (hm.fr (O := fun _ => False) (Fr.grown (gbDrew (gbRefl w1 none))) (fun e => e)).q4 ho.out
  have HT0 := hideIt T0
  have HM1 := hideIt hm
  have HAd := adopt_is (A1.out.kept (gbDrew (gbRefl w1 none))) v l (hlv.kept (gbDrew (gbRefl w1 none))) hll.out on oa ob o ho.out hin.out (fun g c q' hg hq' => A1.out.gq hk.out (by rw [hv.out]; exact hg) hq')
  have HLv := hideIt hlv
  clear hm hlv
  go_wp2
  go_region_held3 (fun w' => Q4 w' q on oa ob v)
    (first | with_reducible exact T0 | with_reducible exact T2 | fail)
    ((go_at_call 123; refine HAd.mono ?_; rintro _ w2 ⟨rfl, A2, F2⟩; have M2 : MemAt w2 q o v := (HM1.out.fr (O := fun _ => False) (Fr.grown (gbDrew (gbRefl w1 none))) (fun e => e)).fr F2 (by rintro ⟨c, hc, e⟩; exact hsl.out (A1.out.inj _ _ _ e hk.out ▸ hc)); have T2 : Q4 w2 q on oa ob v := M2.q4 ho.out; have HA2 := hideIt A2; have HF2 := hideIt F2; have HM2 := hideIt M2; clear A2 F2 M2))
  rename_i hold
  clear hold T0 T2 HAd HT0
  have gd2 := gbDrew (gbRefl w2 none)
  have hxo : ¬ tb K V w.heap.size := fun e => by have := h.out.tb_lt e; omega
  have hxb : w.heap.size ≠ b := fun e => by have := h.out.map.lt; omega
  have X2 : SBox w2 w.heap.size n i := Fr.sbox (HF2.out.mono (O' := tb K V) (fun i' _ e => own_tb e)) (X1.kept (gbDrew (gbRefl w1 none))) hxo
  have hp2 : M.adp P l o (n, i) = some (o, l) := by unfold M.adp; rw [if_neg hsl.out]; exact hp.out
  obtain ⟨y2, hy2, _, hl2⟩ := HA2.out.has hk.out
  rw [hp2] at hy2; cases hy2
  rw [hv.out] at hl2
  have HRp := rep_any (HA2.out.kept gd2) n i hn hi hk.out o l hp2 v l (hl2.kept gd2) hll.out (fun x ex => by
    obtain ⟨h1, h2, h3, h4, y, h5, h6, h7, h8⟩ := hx.out x ex
    refine ⟨h1, h2, y, by unfold M.adp; rw [if_neg h3]; exact h5, h6, h7, h8, fun g hg hg' => h4 ?_⟩
    obtain ⟨qx, hqx, _⟩ := h.out.mem _ _ h5
    exact h.out.vinj x (n, i) g (by rw [hqx]; simp) (by rw [hk.out]; simp) hg (by rw [hv.out]; exact hg'))
  have T3 : (w2.drew.cell? ⟨w.heap.size, 0, none⟩ = some (.int .i64 n) ∧ w2.drew.cell? ⟨w.heap.size, 1, none⟩ = some (.int .i64 i) ∧ w2.drew.cell? ⟨q, 3, none⟩ = some v) := ⟨(X2.kept gd2).at0, (X2.kept gd2).at1, gd2.cell HM2.out.c3 (by simp)⟩
  have hp2 := hideIt hp2
  have hon : Hid (o ≠ some (n, i)) := hideIt (fun e => (hx.out _ e).2.2.2.1 rfl)
  clear hl2
  go_wp2
  go_region_held3 (fun w' => w'.cell? ⟨w.heap.size, 0, none⟩ = some (.int .i64 n) ∧ w'.cell? ⟨w.heap.size, 1, none⟩ = some (.int .i64 i) ∧ w'.cell? ⟨q, 3, none⟩ = some v)
    (first | with_reducible exact T3 | with_reducible exact T4 | fail)
    ((go_at_call 124; refine HRp.mono ?_; rintro _ w3 ⟨rfl, V3, A3, F3, N3, E3⟩; have X3 : SBox w3 w.heap.size n i := Fr.sbox F3 (X2.kept gd2) hxo; have M3 : MemAt w3 q o v := (by obtain ⟨y3, hy3, hm3, _⟩ := A3.has hk.out; unfold M.repl at hy3; rw [if_neg hon.out, hp2.out] at hy3; cases hy3; rw [E3 _ hon.out, hv.out] at hm3; exact hm3); have T4 : (w3.cell? ⟨w.heap.size, 0, none⟩ = some (.int .i64 n) ∧ w3.cell? ⟨w.heap.size, 1, none⟩ = some (.int .i64 i) ∧ w3.cell? ⟨q, 3, none⟩ = some v) := ⟨X3.at0, X3.at1, M3.c3⟩; have HE3 := hideIt E3; have HM3 := hideIt M3; have HX3 := hideIt X3; have HA3 := hideIt A3; have HF3 := hideIt F3; have HN3 := hideIt N3; clear A3 F3 N3 E3 M3 X3))
  rename_i hold
  clear hold T3 T4 HRp
  have gd3 := gbDrew (gbRefl w3 none)
  obtain ⟨w4, hr4, k4, g4⟩ := (HA3.out.kept gd3).map.del n i hn hi 0 (by rw [hk.out]; simp)
  obtain ⟨A4, F4⟩ := (HA3.out.kept gd3).del g4 k4
  have HA4 := hideIt A4
  have HF4 : Hid (Fr (fun j => j = b ∨ tb K V j) w w4) := hideIt (by
    refine (Fr.grown G1).trans ((Fr.grown (gbDrew (gbRefl w1 none))).trans ?_)
    refine (HF2.out.mono (fun i' _ e => .inr (own_tb e))).trans ((Fr.grown gd2).trans ?_)
    exact (HF3.out.mono (fun i' _ e => .inr e)).trans ((Fr.grown gd3).trans (F4.mono (fun i' _ e => .inl e))))
  have HN4 : Hid (NV K V V3 w w4) := hideIt (fun t g ht hg => by
    rcases HN3.out t g ht hg with e | ⟨e1, e2⟩
    · exact .inl e
    · have s1 := G1.size
      have s2 := HF2.out.size
      have s4 := F4.size
      have s5 : w2.drew.heap.size = w2.heap.size := rfl
      have s6 : w1.drew.heap.size = w1.heap.size := rfl
      have s7 : w3.drew.heap.size = w3.heap.size := rfl
      exact .inr ⟨by omega, by omega⟩)
  have x0 := HX3.out.at0
  have x1 := HX3.out.at1
  have c0 := HA3.out.cell
  clear A4 F4 k4
  go_wp2
  go_region
  go_wp2
  go_ret
  exact ⟨rfl, V3, HA4.out, HF4.out, HN4.out⟩

theorem Good.drop {f : Fo} (G : Good f) (s : Int × Int) : Good (f.dropF s) := by
  unfold Fo.dropF
  cases hs : f.has s with
  | false => exact G
  | true =>
    simp only [if_true]
    refine ⟨?_, fun x hx => ?_⟩
    · rw [Fo.pre_drop G.nd]; exact G.nd.filter _
    · rw [Fo.pre_drop G.nd] at hx
      exact G.num x (List.mem_filter.1 hx).1

/-- What holds of a slot's place in a tree. -/
theorem Good.place {f : Fo} (G : Good f) {s : Int × Int} (hs : f.has s = true) (hm : f.len ≤ 1000) :
    (f.children s).length ≤ 1000 ∧ (∀ c ∈ f.children s, I64 c.1 ∧ I64 c.2 ∧ f.view none c ≠ none) ∧ s ∉ f.children s ∧
    ∀ x, f.parent s = some x → I64 x.1 ∧ I64 x.2 ∧ x ∉ f.children s ∧ x ≠ s ∧ ∃ y, f.view none x = some y ∧ s ∈ y.2 ∧ y.2.Nodup ∧ y.2.length ≤ 1000 := by
  have hv := Fo.has_view hs
  obtain ⟨n1, n2⟩ := Fo.nodup_ch G.nd hv
  refine ⟨Nat.le_trans (len_children s) hm, fun c hc => ⟨(G.num c (n2 c hc)).1, (G.num c (n2 c hc)).2, fun e => Fo.view_none.1 e (n2 c hc)⟩, Fo.self_not G.nd hv, fun x hx => ?_⟩
  rw [hx] at hv
  rcases Fo.par_child G.nd hv with e | ⟨x', ⟨o, lx⟩, e1, e2, e3⟩
  · cases e
  · cases e1
    obtain ⟨m1, m2⟩ := Fo.nodup_ch G.nd e2
    obtain ⟨p1, p2⟩ := Fo.par_not G.nd hv e2 e3
    have hxi := G.num x (Fo.view_in e2)
    refine ⟨hxi.1, hxi.2, p1, fun e => ?_, (o, lx), e2, e3, m1, ?_⟩
    · subst e
      rw [hv] at e2
      cases e2
      exact p2 e3
    · have := (Fo.view_has e2).2.1
      rw [← this]
      exact Nat.le_trans (len_children x) hm

theorem drop_is {w : World} {p : Nat} {O : Nat → Prop} {f : Fo} (h : TAt w p O f) (G : Good f) (n i e : Int) (hn : I64 n) (hi : I64 i) (hm : f.len ≤ 1000) (he : f.dropE (n, i) = e) :
    Calls Tryz.prog 96 #[.pointer (some ⟨p, 0, none⟩), sv n i] w fun x w' => x = .returned (.int .i64 e) ∧ TAt w' p (wide O w w') (f.dropF (n, i)) ∧ Fr O w w' := by
  unfold Fo.dropE at he
  unfold Fo.dropF
  cases hs : f.has (n, i) with
  | false =>
    rw [hs] at he
    simp only [Bool.false_eq_true, if_false] at he ⊢
    subst he
    obtain ⟨b, K, V, h, hr⟩ := id h
    refine (drop_none (hideIt h) n i hn hi (hideIt (h.gone _ (Fo.hasnt hs).1))).mono ?_
    rintro _ w1 ⟨rfl, g1⟩
    exact ⟨rfl, (TAt.kept ⟨b, K, V, h, hr⟩ g1).mono (fun i e => .inl e), Fr.grown g1⟩
  | true =>
    rw [hs] at he
    simp only [if_true] at he ⊢
    subst he
    obtain ⟨b, K, V, h, hp, hb, hqs, hgs⟩ := h
    obtain ⟨q, hq, _⟩ := h.mem _ _ (Fo.has_view hs)
    obtain ⟨p1, p2, p3, p4⟩ := G.place hs hm
    have hl := Fo.len_drop G.nd (Fo.has_iff.1 hs)
    rw [← hl] at h
    refine (drop_core (hideIt h) n i hn hi (hideIt hq) _ _ _ _ (hideIt ⟨rfl, rfl, rfl⟩) _ (hideIt (Fo.has_view hs)) _ (hideIt rfl) (hideIt p1) (hideIt p2) (hideIt p3) (hideIt p4)).mono ?_
    rintro _ w1 ⟨rfl, V', A, F, N⟩
    refine ⟨rfl, ⟨b, _, _, A.congr (fun x => ?_) rfl, .inl hp, .inl hb, fun s r hs' => ?_, fun s r g hs' hg' => ?_⟩, F.mono (fun i' _ e => ?_)⟩
    · by_cases e1 : x = (n, i)
      · rw [if_pos e1, e1, Fo.view_none.2]
        rw [Fo.pre_drop G.nd]
        simp
      · rw [if_neg e1, Fo.view_drop G.nd (by simp) (Fo.has_view hs) x e1]
        unfold M.repl M.adp
        by_cases e2 : f.parent (n, i) = some x
        · rw [if_pos e2]
          cases f.view none x with
          | none => split <;> rfl
          | some y => split <;> simp
        · rw [if_neg e2]
          cases f.view none x with
          | none => split <;> rfl
          | some y => split <;> simp
    · by_cases e1 : s = (n, i)
      · simp [e1] at hs'
      · simp only [if_neg e1] at hs'; exact .inl (hqs s r hs')
    · by_cases e1 : s = (n, i)
      · simp [e1] at hs'
      · simp only [if_neg e1] at hs'
        rcases N s g (by rw [hs']; simp) hg' with e | e
        · exact .inl (hgs s r g hs' e)
        · exact .inr e
    · rcases e with rfl | ⟨t, r, hr, e⟩
      · exact hb
      · rcases e with rfl | e
        · exact hqs t _ hr
        · exact hgs t r _ hr e

/-! ### Move -/
set_option maxHeartbeats 400000 in
theorem move_none {w : World} {p b m : Nat} {K : Int × Int → Option Nat} {V : Int × Int → Value} {P : Vw} (h : Hid (TA w p b m K V P)) (n i a c : Int) (hn : I64 n) (hi : I64 i) (hk : Hid (K (n, i) = none)) :
    Calls Tryz.prog 120 #[.pointer (some ⟨p, 0, none⟩), sv n i, sv a c] w fun e w' => e = .returned (.int .i64 3) ∧ w.grownBy w' none := by
  go_enter Tryz.func120, Tryz.ntmps120
  go_upto_region 1 with fail
  obtain ⟨W, hW, X, Y, g0⟩ := twoS w n i a c
  rw [hW]
  clear hW
  obtain ⟨c0, x0, x1, hl⟩ := Reads.mk' (h.out.kept g0) hn hi X hk.out
  refine wp_region_grown (by kernel_rfl) (by kernel_rfl) fun _ => ?_
  repeat (go_big_quiet_step (fail))
  refine wpQuiet_nil ?_
  rintro w1 ⟨⟨_, g1⟩, rfl⟩
  go_wp2
  go_ret
  exact ⟨rfl, gbTrans g0 g1⟩
set_option maxHeartbeats 400000 in
theorem move_twice {w : World} {p b m q : Nat} {K : Int × Int → Option Nat} {V : Int × Int → Value} {P : Vw} (h : Hid (TA w p b m K V P)) (n i a c : Int) (hn : I64 n) (hi : I64 i) (hk : Hid (K (n, i) = some q)) (HH : gHas w p a c true) :
    Calls Tryz.prog 120 #[.pointer (some ⟨p, 0, none⟩), sv n i, sv a c] w fun e w' => e = .returned (.int .i64 4) ∧ w.grownBy w' none := by
  go_enter Tryz.func120, Tryz.ntmps120
  go_upto_region 1 with fail
  obtain ⟨W, hW, X, Y, g0⟩ := twoS w n i a c
  rw [hW]
  clear hW
  obtain ⟨c0, x0, x1, hl⟩ := Reads.mk' (h.out.kept g0) hn hi X hk.out
  refine wp_region_grown (by kernel_rfl) (by kernel_rfl) fun _ => ?_
  repeat (go_big_quiet_step (fail))
  refine wpQuiet_nil ?_
  rintro w1 ⟨⟨_, g1⟩, rfl⟩
  clear c0 x0 x1 hl
  have y0 := (Y.kept g1).at0
  have y1 := (Y.kept g1).at1
  go_wp2_with fail
  refine (HH _ (gbTrans g0 g1)).mono ?_
  rintro _ w2 ⟨rfl, g2⟩
  go_wp2
  go_ret
  exact ⟨rfl, gbTrans (gbTrans g0 g1) g2⟩

set_option maxRecDepth 10000 in
set_option maxHeartbeats 1000000 in
theorem move_core {w : World} {p b m q : Nat} {K : Int × Int → Option Nat} {V : Int × Int → Value} {P : Vw} (h : Hid (TA w p b (m + 1) K V P)) (n i a c : Int) (hn : I64 n) (hi : I64 i) (ha : I64 a) (hc : I64 c) (hm1 : m ≤ 999) (hk : Hid (K (n, i) = some q)) (o : Option (Int × Int)) (l : List (Int × Int)) (hp : Hid (P (n, i) = some (o, l))) (v : Value) (hv : Hid (V (n, i) = v))
    (hk2 : Hid (K (a, c) = none)) (hp2 : Hid (P (a, c) = none)) (HH : gHas w p a c false)
    (hll : Hid (l.length ≤ 1000)) (hin : Hid (∀ c ∈ l, I64 c.1 ∧ I64 c.2 ∧ P c ≠ none)) (hsl : Hid ((n, i) ∉ l))
    (hx : Hid (∀ x, o = some x → I64 x.1 ∧ I64 x.2 ∧ x ∉ l ∧ x ≠ (n, i) ∧ ∃ y, P x = some y ∧ (n, i) ∈ y.2 ∧ y.2.Nodup ∧ y.2.length ≤ 1000)) :
    Calls Tryz.prog 120 #[.pointer (some ⟨p, 0, none⟩), sv n i, sv a c] w fun e w' => e = .returned (.int .i64 0) ∧ ∃ V', TA w' p b (m + 1) (fun t => if t = (a, c) then some q else if t = (n, i) then none else K t) (fun t => if t = (a, c) then v else V' t) (fun t => if t = (a, c) then some (o, l) else if t = (n, i) then none else M.repl (M.adp P l (some (a, c))) o (n, i) [(a, c)] t) ∧ Fr (fun j => j = b ∨ tb K V j) w w' ∧ NV K V V' w w' := by
  have hac : Hid ((a, c) ∉ l) := hideIt (fun e => (hin.out _ e).2.2 hp2.out)
  have hne : Hid ((a, c) ≠ (n, i)) := hideIt (fun e => by have h1 := hk2.out; rw [e, hk.out] at h1; cases h1)
  go_enter Tryz.func120, Tryz.ntmps120
  go_upto_region 1 with fail
  obtain ⟨W, hW, X, Y, g0⟩ := twoS w n i a c
  rw [hW]
  clear hW
  obtain ⟨c0, x0, x1, hl⟩ := Reads.mk' (h.out.kept g0) hn hi X hk.out
  refine wp_region_grown (by kernel_rfl) (by kernel_rfl) fun _ => ?_
  repeat (go_big_quiet_step (fail))
  refine wpQuiet_nil ?_
  rintro w0 ⟨⟨_, g1⟩, rfl⟩
  clear c0 x0 x1 hl
  have y0 := (Y.kept g1).at0
  have y1 := (Y.kept g1).at1
  go_wp2_with fail
  refine (HH _ (gbTrans g0 g1)).mono ?_
  rintro _ w1 ⟨rfl, g1'⟩
  clear y0 y1
  have G1 := gbTrans (gbTrans g0 g1) g1'
  have A1 := hideIt (h.out.kept G1)
  obtain ⟨y, hy, hm, hlv⟩ := A1.out.has hk.out
  rw [hp.out] at hy; cases hy
  rw [hv.out] at hm hlv
  have X1 := (X.kept g1).kept g1'
  have Y1 := (Y.kept g1).kept g1'
  have gd1 := gbDrew (gbRefl w1 none)
  have T0 : (w1.drew.cell? ⟨w.heap.size + 1, 0, none⟩ = some (.int .i64 a) ∧ w1.drew.cell? ⟨w.heap.size + 1, 1, none⟩ = some (.int .i64 c) ∧ w1.drew.cell? ⟨q, 3, none⟩ = some v) := ⟨(Y1.kept gd1).at0, (Y1.kept gd1).at1, gd1.cell hm.c3 (by simp)⟩
  have HM1 := hideIt hm
  have HAd := adopt_is (A1.out.kept gd1) v l (hlv.kept gd1) hll.out a c true (some (a, c)) ⟨rfl, rfl, rfl⟩ hin.out (fun g c q' hg hq' => A1.out.gq hk.out (by rw [hv.out]; exact hg) hq')
  have hxo : ¬ tb K V w.heap.size := fun e => by have := h.out.tb_lt e; omega
  have hyo : ¬ tb K V (w.heap.size + 1) := fun e => by have := h.out.tb_lt e; omega
  clear hm hlv
  go_wp2
  go_region_held3 (fun w' => w'.cell? ⟨w.heap.size + 1, 0, none⟩ = some (.int .i64 a) ∧ w'.cell? ⟨w.heap.size + 1, 1, none⟩ = some (.int .i64 c) ∧ w'.cell? ⟨q, 3, none⟩ = some v)
    (first | with_reducible exact T0 | with_reducible exact T2 | fail)
    ((go_at_call 123; refine HAd.mono ?_; rintro _ w2 ⟨rfl, A2, F2⟩; have M2 : MemAt w2 q o v := (HM1.out.fr (O := fun _ => False) (Fr.grown gd1) (fun e => e)).fr F2 (by rintro ⟨c, hc, e⟩; exact hsl.out (A1.out.inj _ _ _ e hk.out ▸ hc)); have Y2 : SBox w2 (w.heap.size + 1) a c := Fr.sbox (F2.mono (O' := tb K V) (fun i' _ e => own_tb e)) (Y1.kept gd1) hyo; have T2 : (w2.cell? ⟨w.heap.size + 1, 0, none⟩ = some (.int .i64 a) ∧ w2.cell? ⟨w.heap.size + 1, 1, none⟩ = some (.int .i64 c) ∧ w2.cell? ⟨q, 3, none⟩ = some v) := ⟨Y2.at0, Y2.at1, M2.c3⟩; have HA2 := hideIt A2; have HF2 := hideIt F2; have HM2 := hideIt M2; have HY2 := hideIt Y2; clear A2 F2 M2 Y2))
  rename_i hold
  clear hold T0 T2 HAd
  have X2 : SBox w2 w.heap.size n i := Fr.sbox (HF2.out.mono (O' := tb K V) (fun i' _ e => own_tb e)) (X1.kept gd1) hxo
  have x0 := X2.at0
  have x1 := X2.at1
  have y0 := HY2.out.at0
  have y1 := HY2.out.at1
  have ga := gbAlloc w2 (.cells #[.int .i64 a, .int .i64 c] 31) none
  have hsl2 : M.adp P l (some (a, c)) (n, i) = some (o, l) := by unfold M.adp; rw [if_neg hsl.out]; exact hp.out
  have hon : Hid (o ≠ some (n, i)) := hideIt (fun e => (hx.out _ e).2.2.2.1 rfl)
  have HRp := rep_any (HA2.out.kept ga) n i hn hi hk.out o l hsl2 (.slice (some ⟨w2.heap.size, 0, none⟩) 1 1) [(a, c)] (World.ownsRow_lit (base := 0) (e := 31) (size := 2) w2 #[.int .i64 a, .int .i64 c] 1 (Nat.zero_le _) (by unfold maxLen; omega) rfl) (by simp) (fun x ex => by
    obtain ⟨h1, h2, h3, h4, y, h5, h6, h7, h8⟩ := hx.out x ex
    refine ⟨h1, h2, y, by unfold M.adp; rw [if_neg h3]; exact h5, h6, h7, h8, fun g hg hg' => ?_⟩
    obtain ⟨qx, hqx, _⟩ := h.out.mem _ _ h5
    obtain ⟨_, _, _, hlx⟩ := HA2.out.has hqx
    have := (hlx.lt g hg).2
    simp [Value.ownBlock] at hg'
    omega)
  have Hsl2 := hideIt hsl2
  clear hsl2
  go_wp2_with fail
  refine HRp.mono ?_
  rintro _ w3 ⟨rfl, V3, A3, F3, N3, E3⟩
  have X3 : SBox w3 w.heap.size n i := Fr.sbox F3 (X2.kept ga) hxo
  have Y3 : SBox w3 (w.heap.size + 1) a c := Fr.sbox F3 (HY2.out.kept ga) hyo
  have M3 : MemAt w3 q o v ∧ Lst w3 0 v l := by
    obtain ⟨y3, hy3, hm3, hl3⟩ := A3.has hk.out
    unfold M.repl at hy3
    rw [if_neg hon.out, Hsl2.out] at hy3
    cases hy3
    rw [E3 _ hon.out, hv.out] at hm3 hl3
    exact ⟨hm3, hl3⟩
  have hV3 : V3 (n, i) = v := (E3 _ hon.out).trans hv.out
  have gd3 := gbDrew (gbRefl w3 none)
  obtain ⟨w4, hr4, k4, g4⟩ := (A3.kept gd3).map.del n i hn hi 0 (by rw [hk.out]; simp)
  obtain ⟨A4, F4⟩ := (A3.kept gd3).del g4 k4
  have hxb : w.heap.size ≠ b := fun e => by have := h.out.map.lt; omega
  have hyb : w.heap.size + 1 ≠ b := fun e => by have := h.out.map.lt; omega
  have X4 : SBox w4 w.heap.size n i := Fr.sbox F4 (X3.kept gd3) hxb
  have Y4 : SBox w4 (w.heap.size + 1) a c := Fr.sbox F4 (Y3.kept gd3) hyb
  have hqb : q ≠ b := h.out.qb hk.out
  have M4 : MemAt w4 q o v := (M3.1.fr (O := fun _ => False) (Fr.grown gd3) (fun e => e)).fr F4 hqb
  have L4 : Lst w4 0 v l := (M3.2.kept gd3).fr F4 (fun g hg => A3.gb hk.out (by rw [hV3]; exact hg))
  have gd4 := gbDrew (gbRefl w4 none)
  have hk4 : (fun t => if t = (n, i) then none else K t) (a, c) = none := by simp only [if_neg hne.out]; exact hk2.out
  obtain ⟨w5, hr5, k5, g5⟩ := (A4.kept gd4).map.put a c q ha hc (by omega) hk4
  have hP4 : (fun t => if t = (n, i) then none else M.repl (M.adp P l (some (a, c))) o (n, i) [(a, c)] t) (a, c) = none := by
    simp only [if_neg hne.out]
    unfold M.repl M.adp
    rw [if_neg hac.out, hp2.out]
    split <;> rfl
  obtain ⟨A5, F5⟩ := (A4.kept gd4).back (y := (o, l)) (v := v) hP4 (M4.fr (O := fun _ => False) (Fr.grown gd4) (fun e => e)) (L4.kept gd4) (fun t ht => by
      by_cases e : t = (n, i)
      · simp [e] at ht
      · simp only [if_neg e] at ht; exact e (h.out.inj _ _ _ ht hk.out))
    (fun t q' g ht hg hg' => by
      by_cases e : t = (n, i)
      · simp [e] at ht
      · simp only [if_neg e] at ht
        exact e (A3.vinj t (n, i) g (by rw [ht]; simp) (by rw [hk.out]; simp) hg (by rw [hV3]; exact hg'))) g5 k5
  have HA5 := hideIt A5
  have HF5 : Hid (Fr (fun j => j = b ∨ tb K V j) w w5) := hideIt (by
    refine (Fr.grown G1).trans ((Fr.grown gd1).trans ?_)
    refine (HF2.out.mono (fun i' _ e => .inr (own_tb e))).trans ((Fr.grown ga).trans ?_)
    refine (F3.mono (fun i' _ e => .inr e)).trans ((Fr.grown gd3).trans ((F4.mono (fun i' _ e => .inl e)).trans ?_))
    exact (Fr.grown gd4).trans (F5.mono (fun i' _ e => .inl e)))
  have HN5 : Hid (NV K V V3 w w5) := hideIt (fun t g ht hg => by
    rcases N3 t g ht hg with e | ⟨e1, e2⟩
    · exact .inl e
    · have s1 := G1.size
      have s2 := HF2.out.size
      have s3 := ga.size
      have s4 := F4.size
      have s5 := F5.size
      have s6 : w1.drew.heap.size = w1.heap.size := rfl
      have s7 : w3.drew.heap.size = w3.heap.size := rfl
      have s8 : w4.drew.heap.size = w4.heap.size := rfl
      exact .inr ⟨by omega, by omega⟩)
  have c3 := A3.cell
  have c4 := A4.cell
  clear x0 x1 y0 y1
  have x0 := X3.at0
  have x1 := X3.at1
  have y0 := Y4.at0
  have y1 := Y4.at1
  clear A3 F3 N3 E3 A4 F4 A5 F5 k4 k5 M3 M4 L4 X3 Y3 X4 Y4 HRp
  go_wp2
  go_region
  go_wp2
  go_region
  go_wp2
  go_ret
  exact ⟨rfl, V3, HA5.out, HF5.out, HN5.out⟩

theorem Good.move {f : Fo} (G : Good f) (s : Int × Int) {t : Int × Int} (h1 : I64 t.1) (h2 : I64 t.2) : Good (f.moveF s t) := by
  unfold Fo.moveF
  cases hs : f.has s with
  | false => exact G
  | true =>
    cases ht : f.has t with
    | true => exact G
    | false =>
      simp only [if_true, Bool.false_eq_true, if_false]
      refine ⟨Fo.nodup_mv G.nd (Fo.has_not.1 ht), fun x hx => ?_⟩
      rw [Fo.pre_mv] at hx
      obtain ⟨y, hy, rfl⟩ := List.mem_map.1 hx
      unfold Fo.ren
      split
      · exact ⟨h1, h2⟩
      · exact G.num y hy

theorem move_is {w : World} {p : Nat} {O : Nat → Prop} {f : Fo} (h : TAt w p O f) (G : Good f) (n i a c e : Int) (hn : I64 n) (hi : I64 i) (ha : I64 a) (hc : I64 c) (hm : f.len ≤ 1000) (he : f.moveE (n, i) (a, c) = e) :
    Calls Tryz.prog 120 #[.pointer (some ⟨p, 0, none⟩), sv n i, sv a c] w fun x w' => x = .returned (.int .i64 e) ∧ TAt w' p (wide O w w') (f.moveF (n, i) (a, c)) ∧ Fr O w w' := by
  unfold Fo.moveE at he
  unfold Fo.moveF
  cases hs : f.has (n, i) with
  | false =>
    rw [hs] at he
    simp only [Bool.false_eq_true, if_false] at he ⊢
    subst he
    obtain ⟨b, K, V, h, hr⟩ := id h
    refine (move_none (hideIt h) n i a c hn hi (hideIt (h.gone _ (Fo.hasnt hs).1))).mono ?_
    rintro _ w1 ⟨rfl, g1⟩
    exact ⟨rfl, (TAt.kept ⟨b, K, V, h, hr⟩ g1).mono (fun i e => .inl e), Fr.grown g1⟩
  | true =>
    rw [hs] at he
    simp only [if_true] at he ⊢
    cases hs2 : f.has (a, c) with
    | true =>
      rw [hs2] at he
      simp only [if_true] at he ⊢
      subst he
      have HH := gHas.of h a c ha hc true hs2
      obtain ⟨b, K, V, h, hr⟩ := id h
      obtain ⟨q, hq, _⟩ := h.mem _ _ (Fo.has_view hs)
      refine (move_twice (hideIt h) n i a c hn hi (hideIt hq) HH).mono ?_
      rintro _ w1 ⟨rfl, g1⟩
      exact ⟨rfl, (TAt.kept ⟨b, K, V, h, hr⟩ g1).mono (fun i e => .inl e), Fr.grown g1⟩
    | false =>
      rw [hs2] at he
      simp only [Bool.false_eq_true, if_false] at he ⊢
      subst he
      have HH := gHas.of h a c ha hc false hs2
      obtain ⟨b, K, V, h, hp, hb, hqs, hgs⟩ := h
      obtain ⟨q, hq, _⟩ := h.mem _ _ (Fo.has_view hs)
      obtain ⟨p1, p2, p3, p4⟩ := G.place hs hm
      obtain ⟨m, hl⟩ : ∃ m, f.pre.length = m + 1 := ⟨f.pre.length - 1, by have := List.length_pos_of_mem (Fo.has_iff.1 hs); omega⟩
      have hm2 : m ≤ 999 := by unfold Fo.len at hm; omega
      rw [hl] at h
      refine (move_core (hideIt h) n i a c hn hi ha hc hm2 (hideIt hq) _ _ (hideIt (Fo.has_view hs)) _ (hideIt rfl) (hideIt (h.gone _ (Fo.hasnt hs2).1)) (hideIt (Fo.hasnt hs2).1) HH (hideIt p1) (hideIt p2) (hideIt p3) (hideIt p4)).mono ?_
      rintro _ w1 ⟨rfl, V', A, F, N⟩
      have hne : (a, c) ≠ (n, i) := fun e => by rw [e, hs] at hs2; cases hs2
      refine ⟨rfl, ⟨b, _, _, A.congr (fun x => ?_) (by rw [Fo.len_mv, hl]), .inl hp, .inl hb, fun s r hs' => ?_, fun s r g hs' hg' => ?_⟩, F.mono (fun i' _ e => ?_)⟩
      · by_cases e0 : x = (a, c)
        · rw [if_pos e0, e0, Fo.view_mv_new G.nd (Fo.has_not.1 hs2) (Fo.has_view hs)]
        · rw [if_neg e0]
          by_cases e1 : x = (n, i)
          · rw [if_pos e1, e1, Fo.view_mv_gone none (Ne.symm hne)]
          · rw [if_neg e1, Fo.view_mv G.nd (Fo.has_not.1 hs2) (by simp) (Fo.has_view hs) x e1 e0]
            unfold M.repl M.adp
            by_cases e2 : f.parent (n, i) = some x
            · rw [if_pos e2]
              cases f.view none x with
              | none => split <;> rfl
              | some y => split <;> simp
            · rw [if_neg e2]
              cases f.view none x with
              | none => split <;> rfl
              | some y => split <;> simp
      · by_cases e0 : s = (a, c)
        · simp only [if_pos e0] at hs'; cases hs'; exact .inl (hqs _ _ hq)
        · simp only [if_neg e0] at hs'
          by_cases e1 : s = (n, i)
          · simp [e1] at hs'
          · simp only [if_neg e1] at hs'; exact .inl (hqs s r hs')
      · by_cases e0 : s = (a, c)
        · simp only [if_pos e0] at hg'; exact .inl (hgs _ _ g hq hg')
        · simp only [if_neg e0] at hs' hg'
          by_cases e1 : s = (n, i)
          · simp [e1] at hs'
          · simp only [if_neg e1] at hs'
            rcases N s g (by rw [hs']; simp) hg' with e | e
            · exact .inl (hgs s r g hs' e)
            · exact .inr e
      · rcases e with rfl | ⟨t, r, hr, e⟩
        · exact hb
        · rcases e with rfl | e
          · exact hqs t _ hr
          · exact hgs t r _ hr e

end T9
end Go.Proofs.YtdnoidnpiaadaaaGreat
