/-
  WHAT FOLLOWS of the plain answer: more objects go nowhere where so many do not; one by one the same; a span is filled. Speaks of no function of the program.
-/
import Derived.Test.YtadllapdhdjpbaaPlain
namespace Go.Proofs.Ytadllapdhdjpbaa.M

theorem more (A B u k n : Int) (x : Nat) (h1 : 1 ≤ x) (h2 : x ≤ 15) : (pln A B u k n (x : Int)).2.2 = 0 ∨ (pln A B u k n ((x + 1 : Nat) : Int)).2.2 = (pln A B u k n (x : Int)).2.2 := by
  rcases ways6 A B u k n (x : Int) with ⟨b, e, hb, he, q⟩ | ⟨b, hb, _, hk, q⟩ | ⟨a, d, p, s, b, m, y, f, F, ⟨hy, q⟩ | ⟨hy, q⟩⟩
  · right
    rcases ways6 A B u k n ((x + 1 : Nat) : Int) with ⟨b', e', hb', he', q'⟩ | ⟨b', hb', _, hk', q'⟩ | ⟨a', d', p', s', b', m', y', f', F', _⟩
    · rw [q, q']; rw [hb] at hb'; simp only [Prod.mk.injEq] at hb'; exact hb'.2.symm
    · rw [hb] at hb'; simp only [Prod.mk.injEq] at hb'; exact absurd hb'.2 he
    · rw [F'.hb] at hb; simp only [Prod.mk.injEq] at hb; exact absurd hb.2.symm he
  · right
    have hu : usd A B u = true → False := fun e => hk ⟨e, by omega, by omega⟩
    rcases ways6 A B u k n ((x + 1 : Nat) : Int) with ⟨b', e', hb', he', q'⟩ | ⟨b', hb', _, hk', q'⟩ | ⟨a', d', p', s', b', m', y', f', F', _⟩
    · rw [hb] at hb'; simp only [Prod.mk.injEq] at hb'; exact absurd hb'.2.symm he'
    · rw [q, q']
    · exact absurd F'.ok hu
  · right
    rcases ways6 A B u k n ((x + 1 : Nat) : Int) with ⟨b', e', hb', he', q'⟩ | ⟨b', hb', _, hk', q'⟩ | ⟨a', d', p', s', b', m', y', f', F', ⟨hy', q'⟩ | ⟨hy', q'⟩⟩
    · rw [F.hb] at hb'; simp only [Prod.mk.injEq] at hb'; exact absurd hb'.2.symm he'
    · exact absurd ⟨F.ok, by omega, by omega⟩ hk'
    · rw [q, q']
    · exfalso
      have ea : a = a' := by have h1 := F.hA; have h2 := F'.hA; omega
      have ed : d = d' := by have h1 := F.hB; have h2 := F'.hB; omega
      have es : s = s' := by have h1 := F.hu; have h2 := F'.hu; omega
      have eb : b = b' := by have h1 := F.hb; rw [F'.hb] at h1; simp only [Prod.mk.injEq] at h1; omega
      have ex : y = x := by have h1 := F.hc; omega
      have ex' : y' = x + 1 := by have h1 := F'.hc; omega
      subst ea ed es eb ex ex'
      have ep : p = p' := by rw [← F.hp, ← F'.hp]
      have em : m = m' := by rw [← F.hm, ← F'.hm]
      have ef : f = f' := by rw [← F.hf, ← F'.hf]
      subst ep em ef
      rw [Nat.succ_mul] at hy'
      generalize y * m = z at *
      clear F F' q q'
      omega
  · left; rw [q]

theorem count15 (C : Int) : ∃ U x : Nat, IntKind.u64.wrap C = (U : Int) ∧ 1 + (U : Int) % 15 = (x : Int) ∧ 1 ≤ x ∧ x ≤ 15 :=
  ⟨(IntKind.u64.wrap C).toNat, 1 + (IntKind.u64.wrap C).toNat % 15, by rw [IntKind.wrap_u64]; omega, by omega, by omega, by omega⟩

end Go.Proofs.Ytadllapdhdjpbaa.M
