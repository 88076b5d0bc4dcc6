/-
  DELETE AND REVOKE, BOTH SIDES: the program's call, and behind it the document's, which answers the same.
-/
import Derived.Test.YtdnoidnpiaadaaaGreatH6
import Derived.Test.YtdnoidnpiaadaaaGreatH5
import Derived.Test.YtdnoidnpiaadaaaGreatH2
namespace Go.Proofs.YtdnoidnpiaadaaaGreat
set_option maxRecDepth 10000
open Go.RowKit
set_option linter.unusedVariables false

namespace M
theorem dd_ok (n : Nat) (a : Int × Int) : ∀ (i : Nat) (x : X), Ok x → (gc x.S a).k ≠ 0 → Ok (dd n i x a).2 ∧ (dd n i x a).2.f.len ≤ x.f.len ∧ (dd n i x a).2.T.length ≤ x.T.length + i
  | 0, x, h, ha => ⟨h, Nat.le_refl _, Nat.le_refl _⟩
  | i + 1, x, h, ha => by
    have hs := (nxt_in n x a [] h ha (by simp)).1
    have hl := len_one h hs
    have hT := T_one x (nxt n x.S a [])
    by_cases e : nxt n x.S a [] = a
    · have E : dd n (i + 1) x a = (false, one x a) := if_pos e
      rw [E]
      rw [e] at hs hl hT
      exact ⟨h.one hs, by show (one x a).f.len ≤ _; omega, by show (one x a).T.length ≤ _; omega⟩
    · have E : dd n (i + 1) x a = dd n i (one x (nxt n x.S a [])) a := if_neg e
      have ih := dd_ok n a i _ (h.one hs) (by rw [gc_one h hs, if_neg (fun k => e k.symm)]; exact ha)
      rw [E]
      exact ⟨ih.1, by omega, by omega⟩
def Rok (x : X) (i : Nat) (r : Bool × X) : Prop := Ok r.2 ∧ r.2.f.len ≤ x.f.len ∧ r.2.T.length ≤ x.T.length + i
theorem Rok.stay {x : X} (h : Ok x) (i : Nat) (b : Bool) : Rok x i (b, x) := ⟨h, Nat.le_refl _, Nat.le_add_right _ _⟩
theorem rd_ok (n : Nat) (a : Int × Int) : ∀ (i : Nat) (x : X) (g : Option (Int × Int)), Ok x → Rok x i (rd n a i x g)
  | 0, x, g, h => by
    have K : Rok x 0 (match (x.f.kin a).getLast? with | none => (false, x) | some _ => (true, x)) := by
      cases (x.f.kin a).getLast? <;> exact Rok.stay h _ _
    cases g with
    | none => exact K
    | some b =>
      show Rok x 0 (if (gc x.S b).k = 0 then (match (x.f.kin a).getLast? with | none => (false, x) | some _ => (true, x)) else (true, x))
      by_cases e : (gc x.S b).k = 0
      · rw [if_pos e]; exact K
      · rw [if_neg e]; exact Rok.stay h _ _
  | i + 1, x, g, h => by
    have St : ∀ c, (gc x.S c).k ≠ 0 → Rok x (i + 1) (rd n a i (one x (nxt n x.S c [])) (some c)) := by
      intro c hc
      have hs := (nxt_in n x c [] h hc (by simp)).1
      have hl := len_one h hs
      have hT := T_one x (nxt n x.S c [])
      obtain ⟨h1, h2, h3⟩ := rd_ok n a i (one x (nxt n x.S c [])) (some c) (h.one hs)
      exact ⟨h1, by omega, by omega⟩
    have K : Rok x (i + 1) (match (x.f.kin a).getLast? with | none => (false, x) | some c => rd n a i (one x (nxt n x.S c [])) (some c)) := by
      cases e : (x.f.kin a).getLast? with
      | none => exact Rok.stay h _ _
      | some c => exact St c (kin_full2 h (List.mem_of_getLast? e))
    cases g with
    | none => exact K
    | some b =>
      show Rok x (i + 1) (if (gc x.S b).k = 0 then (match (x.f.kin a).getLast? with | none => (false, x) | some c => rd n a i (one x (nxt n x.S c [])) (some c)) else rd n a i (one x (nxt n x.S b [])) (some b))
      by_cases e : (gc x.S b).k = 0
      · rw [if_pos e]; exact K
      · rw [if_neg e]; exact St b e
end M
namespace Bh
variable {w0 w w' : World} {P R Oc : Nat → Prop} {p s t m m' q : Nat} {S S' S2 S3 : St} {f f' f2 f3 : T9.Fo}
theorem prog2 (h : Bh w0 w P R p s t m q S f S2 f2) (A : Cs w0 w' Oc p s t m' S' f') (hs : ∀ i, Oc i → P i ∨ w.heap.size ≤ i) (F : Fr P w w') : Bh w0 w' Oc R p s t m' q S' f' S2 f2 :=
  ⟨A, h.rc.fr F (fun i hi e => h.ap i e hi) (fun i hi => (h.cs.lo i hi).1), fun i hi e => by
    rcases hs i hi with k | k
    · exact h.ap i k e
    · have := (h.rc.lo i e).2; omega⟩
theorem doc2 (h : Bh w0 w P R p s t m q S f S2 f2) (A : Rc w0 w' Oc q S3 f3) (hs : ∀ i, Oc i → R i ∨ w.heap.size ≤ i) (F : Fr R w w') : Bh w0 w' P Oc p s t m q S f S3 f3 :=
  ⟨h.cs.fr F (fun i hi => h.ap i hi) (fun i hi => (h.rc.lo i hi).1), A, fun i hi e => by
    rcases hs i e with k | k
    · exact h.ap i hi k
    · have := (h.cs.lo i hi).2; omega⟩
end Bh
/-- What both leave. -/
structure B2 (w0 w w2 : World) (P R P2 R2 : Nat → Prop) (p s t m q : Nat) (n : Nat) (S : St) (f : T9.Fo) (tv tv2 : Value) (T : List C) : Prop where
  bh : Bh w0 w2 P2 R2 p s t m q S f S f
  inv : M.Inv S f
  len : f.len ≤ n
  la : TL w2 w0.heap.size tv T
  lb : TL w2 w0.heap.size tv2 T
  tl : T.length ≤ 2000
  bf : Bf P R w w2 P2 R2

theorem del_both {w0 w : World} {P R : Nat → Prop} {p s t m q : Nat} {S : St} {f : T9.Fo} (B : Bh w0 w P R p s t m q S f S f) (I : M.Inv S f) (a c l : Int) (ia : I64 a) (ic : I64 c) (hl : f.len ≤ 60) :
    Calls Tryz.prog 20 #[.pointer (some ⟨p, 0, none⟩), sv a c, .int .i64 l] w fun x w1 => ∃ tv d e P1, x = .returned (.tuple #[tv, .bool d, .int .i64 e]) ∧ Bf P R w w1 P1 R ∧
      Calls Tryz.prog 21 #[.pointer (some ⟨q, 0, none⟩), sv a c, .int .i64 l] w1 fun y w2 => ∃ tv2 T P2 R2 S2 f2, y = .returned (.tuple #[tv2, .bool d, .int .i64 e]) ∧ B2 w0 w w2 P R P2 R2 p s t m q f.len S2 f2 tv tv2 T := by
  obtain ⟨e, he⟩ : ∃ e, M.faceE S (a, c) l = e := ⟨_, rfl⟩
  by_cases hz : e = 0
  · subst hz
    obtain ⟨⟨rq, rx⟩, hr⟩ : ∃ r, M.delR S f (a, c) l = r := ⟨_, rfl⟩
    obtain ⟨l1, l2, hf⟩ := M.faceE_ok he
    obtain ⟨L, rfl⟩ : ∃ L : Nat, l = (L : Int) := ⟨l.toNat, by omega⟩
    have K : M.Rok ⟨S, f, L, []⟩ L (rq, rx) := by
      have ok : M.Ok ⟨S, f, L, []⟩ := ⟨I, B.cs.gs, B.cs.gt⟩
      rw [← hr]
      unfold M.delR
      rw [Int.toNat_natCast]
      rw [← M.dd_away f.len (a, c) L ⟨S, f, L, []⟩ ok hf (Nat.le_refl _) rfl]
      exact M.dd_ok f.len (a, c) L ⟨S, f, L, []⟩ ok hf
    obtain ⟨k1, k2, k3⟩ := K
    refine (B.cs.delete_yes I a c L ia ic (by omega) he rq rx hr).mono ?_
    rintro _ w1 ⟨tv, Oc, rfl, C, hs, F, T, hn⟩
    have B1 := B.prog2 C hs F
    refine ⟨_, _, _, Oc, rfl, ⟨F.mono (fun i _ e => .inl e), hs, fun i hi => .inl hi⟩, ((B1.rc.delete_yes I a c L hl he rq rx hr).mono ?_)⟩
    rintro _ w2 ⟨tv2, Od, rfl, C2, hs2, F2, T2, hn2⟩
    refine ⟨_, rx.T, Oc, Od, rx.S, rx.f, rfl, ⟨B1.doc2 C2 hs2 F2, k1.i, k2, T.fr F2 (fun k hk e => ?_), T2, by have : rx.T.length ≤ 0 + L := k3; omega, ⟨?_, hs, fun i hi => ?_⟩⟩⟩
    · rcases (hn k hk).2 with z | z
      · exact B.ap k z e
      · have := (B.rc.lo k e).2; omega
    · exact (F.mono (O := P) (O' := fun i => P i ∨ R i) (fun i _ e => .inl e)).join F2 (fun i hi e => .inr e)
    · rcases hs2 i hi with z | z
      · exact .inl z
      · have := F.size; exact .inr (by omega)
  · have hne : (e != 0) = true := by simpa using hz
    refine (B.cs.delete_no a c l e ia he hne).mono ?_
    rintro _ w1 ⟨rfl, g1⟩
    refine ⟨_, _, _, P, rfl, (Bf.refl P R w).kept g1, (((B.kept g1).rc.delete_no a c l e he hne).mono ?_)⟩
    rintro _ w2 ⟨rfl, g2⟩
    exact ⟨_, [], P, R, S, f, rfl, ⟨(B.kept g1).kept g2, I, Nat.le_refl _, TL.nil _ _, TL.nil _ _, by simp, ((Bf.refl P R w).kept g1).kept g2⟩⟩

theorem rev_both {w0 w : World} {P R : Nat → Prop} {p s t m q : Nat} {S : St} {f : T9.Fo} (B : Bh w0 w P R p s t m q S f S f) (I : M.Inv S f) (a c l : Int) (ia : I64 a) (ic : I64 c) (hl : f.len ≤ 60) :
    Calls Tryz.prog 23 #[.pointer (some ⟨p, 0, none⟩), sv a c, .int .i64 l] w fun x w1 => ∃ tv d e P1, x = .returned (.tuple #[tv, .bool d, .int .i64 e]) ∧ Bf P R w w1 P1 R ∧
      Calls Tryz.prog 24 #[.pointer (some ⟨q, 0, none⟩), sv a c, .int .i64 l] w1 fun y w2 => ∃ tv2 T P2 R2 S2 f2, y = .returned (.tuple #[tv2, .bool d, .int .i64 e]) ∧ B2 w0 w w2 P R P2 R2 p s t m q f.len S2 f2 tv tv2 T := by
  obtain ⟨e, he⟩ : ∃ e, M.faceE S (a, c) l = e := ⟨_, rfl⟩
  by_cases hz : e = 0
  · subst hz
    obtain ⟨⟨rq, rx⟩, hr⟩ : ∃ r, M.revR S f (a, c) l = r := ⟨_, rfl⟩
    obtain ⟨l1, l2, hf⟩ := M.faceE_ok he
    obtain ⟨L, rfl⟩ : ∃ L : Nat, l = (L : Int) := ⟨l.toNat, by omega⟩
    have K : M.Rok ⟨S, f, L, []⟩ L (rq, rx) := by
      have ok : M.Ok ⟨S, f, L, []⟩ := ⟨I, B.cs.gs, B.cs.gt⟩
      rw [← hr]
      unfold M.revR
      rw [Int.toNat_natCast]
      rw [← (M.rd_rvk 60 (a, c) L ⟨S, f, L, []⟩ (f.len + 1) ok hl rfl (Nat.lt_succ_self _)).1]
      exact M.rd_ok 60 (a, c) L ⟨S, f, L, []⟩ none ok
    obtain ⟨k1, k2, k3⟩ := K
    refine (B.cs.revoke_yes I a c L ia ic (by omega) he rq rx hr).mono ?_
    rintro _ w1 ⟨tv, Oc, rfl, C, hs, F, T, hn⟩
    have B1 := B.prog2 C hs F
    refine ⟨_, _, _, Oc, rfl, ⟨F.mono (fun i _ e => .inl e), hs, fun i hi => .inl hi⟩, ((B1.rc.revoke_yes I a c L hl he rq rx hr).mono ?_)⟩
    rintro _ w2 ⟨tv2, Od, rfl, C2, hs2, F2, T2, hn2⟩
    refine ⟨_, rx.T, Oc, Od, rx.S, rx.f, rfl, ⟨B1.doc2 C2 hs2 F2, k1.i, k2, T.fr F2 (fun k hk e => ?_), T2, by have : rx.T.length ≤ 0 + L := k3; omega, ⟨?_, hs, fun i hi => ?_⟩⟩⟩
    · rcases (hn k hk).2 with z | z
      · exact B.ap k z e
      · have := (B.rc.lo k e).2; omega
    · exact (F.mono (O := P) (O' := fun i => P i ∨ R i) (fun i _ e => .inl e)).join F2 (fun i hi e => .inr e)
    · rcases hs2 i hi with z | z
      · exact .inl z
      · have := F.size; exact .inr (by omega)
  · have hne : (e != 0) = true := by simpa using hz
    refine (B.cs.revoke_no a c l e ia he hne).mono ?_
    rintro _ w1 ⟨rfl, g1⟩
    refine ⟨_, _, _, P, rfl, (Bf.refl P R w).kept g1, (((B.kept g1).rc.revoke_no a c l e he hne).mono ?_)⟩
    rintro _ w2 ⟨rfl, g2⟩
    exact ⟨_, [], P, R, S, f, rfl, ⟨(B.kept g1).kept g2, I, Nat.le_refl _, TL.nil _ _, TL.nil _ _, by simp, ((Bf.refl P R w).kept g1).kept g2⟩⟩
end Go.Proofs.YtdnoidnpiaadaaaGreat
