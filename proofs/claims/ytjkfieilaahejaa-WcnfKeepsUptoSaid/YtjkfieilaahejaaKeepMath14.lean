/-
  Shortest words of a weak form are those of the productions it was made of.
-/
import Derived.Test.YtjkfieilaahejaaFormMath14
import Derived.Test.YtjkfieilaahejaaLeastMath13
namespace Go.Proofs.Ytjkfieilaahejaa
open Go.RowKit
set_option linter.unusedVariables false
set_option linter.unusedSimpArgs false
def ClosedP (ps : List (Int × List Sy)) (u : Nat → Int) : Prop := ∀ p ∈ ps, lei (u p.1.toNat) (long u p.2 0)
theorem ClosedP.app {a b : List (Int × List Sy)} {u : Nat → Int} : ClosedP (a ++ b) u ↔ ClosedP a u ∧ ClosedP b u :=
  ⟨fun h => ⟨fun p hp => h p (List.mem_append.2 (.inl hp)), fun p hp => h p (List.mem_append.2 (.inr hp))⟩, fun h p hp => (List.mem_append.1 hp).elim (h.1 p) (h.2 p)⟩
theorem ClosedP.one {p : Int × List Sy} {u : Nat → Int} : ClosedP [p] u ↔ lei (u p.1.toNat) (long u p.2 0) :=
  ⟨fun h => h p (by simp), fun h q hq => by rw [List.mem_singleton.1 hq]; exact h⟩
theorem cap_cap {a b : Int} (ha : 0 ≤ a) (hb : 0 ≤ b) : cap (cap a + b) = cap (a + b) := by unfold cap; split <;> (try split) <;> (try split) <;> omega
theorem cap_low {a : Int} (h : a ≤ 65) : cap a = a := by unfold cap; rw [if_neg (by omega)]
/-- What stands ahead is added. -/
theorem long_from {u : Nat → Int} : ∀ (l : List Sy) (a : Int), 0 ≤ a → a ≤ 65 → long u l a = if long u l 0 < 0 then -1 else cap (a + long u l 0)
  | [], a, h1, h2 => by unfold long; rw [if_neg (by omega), Int.add_zero, cap_low h2]
  | (b, k) :: l, a, h1, h2 => by
    have st : ∀ c : Int, 0 ≤ c → long u l (cap (a + c)) = if long u l (cap (0 + c)) < 0 then -1 else cap (a + long u l (cap (0 + c))) := fun c hc => by
      have r1 := cap_rng (x := a + c) (by omega)
      have r2 := cap_rng (x := 0 + c) (by omega)
      rw [long_from l _ r1.1 r1.2.1, long_from l _ r2.1 r2.2.1]
      by_cases hl : long u l 0 < 0
      · rw [if_pos hl, if_pos hl, if_pos (by decide)]
      · rw [if_neg hl, if_neg hl]
        have r3 := cap_rng (x := cap (0 + c) + long u l 0) (by omega)
        rw [if_neg (by omega), cap_cap (by omega) (by omega), cap_cap (by omega) (by omega), Int.add_comm a (cap _), cap_cap (by omega) h1]
        congr 1
        omega
    unfold long
    cases b with
    | true =>
      simp only [if_true]
      exact st 1 (by omega)
    | false =>
      simp only [Bool.false_eq_true, if_false]
      by_cases hu : u k.toNat < 0
      · rw [if_pos hu, if_pos hu, if_pos (by decide)]
      · rw [if_neg hu, if_neg hu]
        exact st _ (by omega)
theorem long_nt {u : Nat → Int} {x : Sy} {l : List Sy} (hx : x.1 = false) (hr : u x.2.toNat ≤ 65) : long u (x :: l) 0 = if u x.2.toNat < 0 then -1 else long u l (u x.2.toNat) := by
  obtain ⟨b, k⟩ := x
  cases hx
  rw [long]
  simp only [Bool.false_eq_true, if_false]
  by_cases h : u k.toNat < 0
  · rw [if_pos h, if_pos h]
  · rw [if_neg h, if_neg h, Int.zero_add, cap_low hr]
/-- A body of two, the second as long as the rest. -/
theorem long_pair {u : Nat → Int} {x : Sy} {l : List Sy} {m : Nat} (hx : x.1 = false) (h0 : u x.2.toNat ≤ 65) (hm : lei (u m) (long u l 0)) (hr : u m ≤ 65) : lei (long u [x, (false, (m : Int))] 0) (long u (x :: l) 0) := by
  rw [long_nt hx h0, long_nt hx h0]
  by_cases h : u x.2.toNat < 0
  · rw [if_pos h, if_pos h]; exact .inl (by decide)
  · rw [if_neg h, if_neg h]
    have e1 : long u [((false, (m : Int)) : Sy)] (u x.2.toNat) = if u m < 0 then -1 else cap (u x.2.toNat + u m) := by
      unfold long
      simp only [Bool.false_eq_true, if_false, Int.toNat_natCast]
      rfl
    rw [e1, long_from l _ (by omega) h0]
    rcases hm with h2 | ⟨h2, h3⟩
    · rw [if_pos h2]; exact .inl (by decide)
    · rw [if_neg (show ¬ long u l 0 < 0 by omega), if_neg (by omega)]
      exact .inr ⟨(cap_rng (by omega)).1, cap_mono (by omega)⟩
theorem long_pair_eq {u : Nat → Int} {x : Sy} {l : List Sy} {m : Nat} (hx : x.1 = false) (h0 : u x.2.toNat ≤ 65) (hm : u m = long u l 0) : long u [x, (false, (m : Int))] 0 = long u (x :: l) 0 := by
  rw [long_nt hx h0, long_nt hx h0]
  by_cases h : u x.2.toNat < 0
  · rw [if_pos h, if_pos h]
  · rw [if_neg h, if_neg h]
    have e1 : long u [((false, (m : Int)) : Sy)] (u x.2.toNat) = if u m < 0 then -1 else cap (u x.2.toNat + u m) := by
      unfold long
      simp only [Bool.false_eq_true, if_false, Int.toNat_natCast]
      rfl
    rw [e1, long_from l _ (by omega) h0, hm]
/-- What the helpers stand for is among the productions. -/
def HelpIn (s : Fs) : Prop := (∀ k m, s.lab k = some m → ((m : Int), [((true, (k : Int)) : Sy)]) ∈ s.ps) ∧ ∀ m, s.e = some m → ((m : Int), []) ∈ s.ps
theorem labF_in {s : Fs} {k : Nat} (h : HelpIn s) : HelpIn (labF s k).1 ∧ (((labF s k).2 : Int), [((true, (k : Int)) : Sy)]) ∈ (labF s k).1.ps ∧ ∀ p ∈ s.ps, p ∈ (labF s k).1.ps := by
  unfold labF
  split
  · rename_i m hm; exact ⟨h, h.1 k m hm, fun p hp => hp⟩
  · refine ⟨⟨fun j m hj => ?_, fun m hm => List.mem_append.2 (.inl (h.2 m hm))⟩, List.mem_append.2 (.inr (by simp)), fun p hp => List.mem_append.2 (.inl hp)⟩
    dsimp only at hj ⊢
    unfold updL at hj
    split at hj
    · rename_i e; cases hj; subst e; exact List.mem_append.2 (.inr (by simp))
    · exact List.mem_append.2 (.inl (h.1 j m hj))
theorem empF_in {s : Fs} (h : HelpIn s) : HelpIn (empF s).1 ∧ (((empF s).2 : Int), []) ∈ (empF s).1.ps ∧ ∀ p ∈ s.ps, p ∈ (empF s).1.ps := by
  unfold empF
  split
  · rename_i m hm; exact ⟨h, h.2 m hm, fun p hp => hp⟩
  · refine ⟨⟨fun j m hj => List.mem_append.2 (.inl (h.1 j m hj)), fun m hm => ?_⟩, List.mem_append.2 (.inr (by simp)), fun p hp => List.mem_append.2 (.inl hp)⟩
    dsimp only at hm ⊢
    cases hm
    exact List.mem_append.2 (.inr (by simp))
/-- A symbol's stand-in is at most as long. -/
theorem labsF_in : ∀ (l : List Sy) {s : Fs}, HelpIn s → (∀ x ∈ l, 0 ≤ x.2) → HelpIn (labsF l s).1 ∧ (∀ p ∈ s.ps, p ∈ (labsF l s).1.ps) ∧ ∀ u, ClosedP (labsF l s).1.ps u → ∀ a a', 0 ≤ a' → a' ≤ a → lei (long u (labsF l s).2 a') (long u l a)
  | [], s, h, _ => ⟨h, fun p hp => hp, fun u _ a a' h1 h2 => .inr ⟨h1, h2⟩⟩
  | (b, n) :: l, s, h, hl => by
    cases b with
    | false =>
      obtain ⟨i1, i2, i3⟩ := labsF_in l h fun x hx => hl x (List.mem_cons_of_mem _ hx)
      refine ⟨i1, i2, fun u hu a a' h1 h2 => ?_⟩
      show lei (long u ((false, n) :: (labsF l s).2) a') (long u ((false, n) :: l) a)
      unfold long
      simp only [Bool.false_eq_true, if_false]
      by_cases hn : u n.toNat < 0
      · rw [if_pos hn, if_pos hn]; exact .inl (by decide)
      · rw [if_neg hn, if_neg hn]
        exact i3 u hu _ _ (cap_rng (by omega)).1 (cap_mono (by omega))
    | true =>
      obtain ⟨j1, j2, j3⟩ := labF_in (k := n.toNat) h
      obtain ⟨i1, i2, i3⟩ := labsF_in l j1 fun x hx => hl x (List.mem_cons_of_mem _ hx)
      refine ⟨i1, fun p hp => i2 p (j3 p hp), fun u hu a a' h1 h2 => ?_⟩
      show lei (long u ((false, ((labF s n.toNat).2 : Int)) :: (labsF l (labF s n.toNat).1).2) a') (long u ((true, n) :: l) a)
      have hm := hu _ (i2 _ j2)
      dsimp only at hm
      rw [Int.toNat_natCast] at hm
      have e1 : long u [((true, ((n.toNat : Nat) : Int)) : Sy)] 0 = 1 := by unfold long; simp only [if_true]; rfl
      rw [e1] at hm
      unfold long
      simp only [Bool.false_eq_true, if_false, if_true, Int.toNat_natCast]
      rcases hm with hm | ⟨hm1, hm2⟩
      · exact absurd hm (by decide)
      · rw [if_neg (by omega)]
        exact i3 u hu _ _ (cap_rng (by omega)).1 (cap_mono (by omega))
def Rng (u : Nat → Int) : Prop := ∀ k, u k ≤ 65
theorem chainF_in : ∀ (l : List Sy) (s : Fs) (h : Nat), (∀ x ∈ l, x.1 = false) → 2 ≤ l.length → (chainF l s h).n ≤ 1024 → (∀ p ∈ s.ps, p ∈ (chainF l s h).ps) ∧ ∀ u, Rng u → ClosedP (chainF l s h).ps u → lei (u h) (long u l 0)
  | [], s, h, _, h2, _ => by simp at h2
  | [x], s, h, _, h2, _ => by simp at h2
  | [x, y], s, h, _, _, _ => by
    refine ⟨fun p hp => by unfold chainF addF; exact List.mem_append.2 (.inl hp), fun u _ hu => ?_⟩
    unfold chainF addF at hu
    have := ClosedP.one.1 (ClosedP.app.1 hu).2
    dsimp only at this
    rwa [Int.toNat_natCast] at this
  | x :: y :: z :: l, s, h, hl, _, hn => by
    unfold chainF at hn ⊢
    split at hn
    · dsimp only at hn; omega
    · rename_i hb
      rw [if_neg hb]
      obtain ⟨i1, i2⟩ := chainF_in (y :: z :: l) _ s.n (fun w hw => hl w (List.mem_cons_of_mem _ hw)) (by simp) hn
      refine ⟨fun p hp => i1 p (List.mem_append.2 (.inl hp)), fun u hr hu => ?_⟩
      have h1 := i2 u hr hu
      have h3 := hu _ (i1 ((h : Int), [x, (false, (s.n : Int))]) (List.mem_append.2 (.inr (by simp))))
      dsimp only at h3
      rw [Int.toNat_natCast] at h3
      exact lei_trans h3 (long_pair (hl x (List.mem_cons_self ..)) (hr _) h1 (hr _))
theorem addF_in {s : Fs} {h : Int} {l : List Sy} (hs : HelpIn s) : HelpIn (addF s h l) := ⟨fun k m hm => List.mem_append.2 (.inl (hs.1 k m hm)), fun m hm => List.mem_append.2 (.inl (hs.2 m hm))⟩
theorem chainF_help : ∀ (l : List Sy) (s : Fs) (h : Int), HelpIn s → HelpIn (chainF l s h)
  | [], s, h, hs => addF_in hs
  | [x], s, h, hs => addF_in hs
  | [x, y], s, h, hs => addF_in hs
  | x :: y :: z :: l, s, h, hs => by
    unfold chainF
    split
    · exact hs
    · exact chainF_help (y :: z :: l) _ _ ⟨fun k m hm => List.mem_append.2 (.inl (hs.1 k m hm)), fun m hm => List.mem_append.2 (.inl (hs.2 m hm))⟩
theorem formF_in {s : Fs} {h : Nat} {l : List Sy} (hs : HelpIn s) (ho : FsOK s) (hl : ∀ x ∈ l, symOK s.n x) (hn : (formF s h l).n ≤ 1024) : HelpIn (formF s h l) ∧ (∀ p ∈ s.ps, p ∈ (formF s h l).ps) ∧ ∀ u, Rng u → ClosedP (formF s h l).ps u → lei (u h) (long u l 0) := by
  unfold formF at hn ⊢
  split at hn
  · rename_i hb
    rw [if_pos hb]
    refine ⟨addF_in hs, fun p hp => List.mem_append.2 (.inl hp), fun u _ hu => ?_⟩
    have := ClosedP.one.1 (ClosedP.app.1 hu).2
    dsimp only at this
    rwa [Int.toNat_natCast] at this
  · rename_i hb
    rw [if_neg hb]
    split at hn
    · rename_i h1
      rw [if_pos h1]
      obtain ⟨a, b, c⟩ := empF_ok ho
      have hl2 : ∀ x ∈ l ++ [(false, ((empF s).2 : Int))], symOK (empF s).1.n x := fun x hx => (List.mem_append.1 hx).elim (fun q => (hl x q).up c) fun q => by rw [List.mem_singleton.1 q]; exact nt_ok b
      obtain ⟨e1, e2, e3⟩ := empF_in hs
      obtain ⟨i1, i2, i3⟩ := labsF_in _ e1 fun x hx => (hl2 x hx).1
      obtain ⟨d, _, f⟩ := labsF_ok _ a hl2
      obtain ⟨j1, j2⟩ := chainF_in _ _ h (fun x hx => (f x hx).1) (by rw [(labsF_len _ _).2.2]; simp; omega) hn
      refine ⟨chainF_help _ _ _ i1, fun p hp => j1 p (i2 p (e3 p hp)), fun u hr hu => ?_⟩
      have g1 := j2 u hr hu
      have g2 := i3 u (fun p hp => hu p (j1 p hp)) 0 0 (Int.le_refl _) (Int.le_refl _)
      have g3 := hu _ (j1 _ (i2 _ e2))
      dsimp only at g3
      rw [Int.toNat_natCast, show long u [] 0 = 0 from rfl] at g3
      refine lei_trans g1 (lei_trans g2 ?_)
      match l, h1, hb with
      | [(b, k)], _, hb =>
        cases b with
        | true => exact absurd rfl hb
        | false =>
          show lei (long u ((false, k) :: [(false, ((empF s).2 : Int))]) 0) (long u [(false, k)] 0)
          unfold long
          simp only [Bool.false_eq_true, if_false]
          by_cases hk : u k.toNat < 0
          · rw [if_pos hk, if_pos hk]; exact .inl (by decide)
          · rw [if_neg hk, if_neg hk]
            have hz : u (empF s).2 = 0 := by
              rcases g3 with g3 | g3
              · exact absurd g3 (by decide)
              · omega
            unfold long
            simp only [Bool.false_eq_true, if_false, Int.toNat_natCast, hz]
            rw [if_neg (by decide)]
            have r := cap_rng (x := 0 + u k.toNat) (by omega)
            unfold long
            rw [Int.add_zero, cap_low r.2.1]
            exact lei_refl _
    · rename_i h1
      rw [if_neg h1]
      obtain ⟨i1, i2, i3⟩ := labsF_in l hs fun x hx => (hl x hx).1
      obtain ⟨d, _, f⟩ := labsF_ok l ho hl
      have hlen : 2 ≤ l.length := by
        match l, h1, hb with
        | [], _, hb => exact absurd rfl hb
        | [_], h1, _ => exact absurd rfl h1
        | _ :: _ :: _, _, _ => simp
      obtain ⟨j1, j2⟩ := chainF_in _ _ h (fun x hx => (f x hx).1) (by rw [(labsF_len _ _).2.2]; exact hlen) hn
      refine ⟨chainF_help _ _ _ i1, fun p hp => j1 p (i2 p hp), fun u hr hu => ?_⟩
      exact lei_trans (j2 u hr hu) (i3 u (fun p hp => hu p (j1 p hp)) 0 0 (Int.le_refl _) (Int.le_refl _))
theorem ofF_in : ∀ (l : List (Int × List Sy)) {s s' : Fs}, HelpIn s → FsOK s → s.n ≤ 1024 → (∀ p ∈ l, (0 ≤ p.1 ∧ p.1 < s.n) ∧ ∀ x ∈ p.2, symOK s.n x) → ofF l s = some s' → (∀ p ∈ s.ps, p ∈ s'.ps) ∧ ∀ u, Rng u → ClosedP s'.ps u → ClosedP l u
  | [], s, s', _, _, _, _, h => by cases h; exact ⟨fun p hp => hp, fun u _ _ p hp => by cases hp⟩
  | (h0, b) :: l, s, s', hi, ho, hn, hl, h => by
    unfold ofF at h
    split at h
    · cases h
    · rename_i hq
      obtain ⟨h1, h2⟩ := hl (h0, b) (List.mem_cons_self ..)
      dsimp only at h1 h2 hq h
      obtain ⟨k, rfl⟩ : ∃ k : Nat, h0 = (k : Int) := ⟨h0.toNat, by omega⟩
      obtain ⟨a1, a2⟩ := formF_ok ho h1 h2
      obtain ⟨b1, b2, b3⟩ := formF_in (h := k) hi ho h2 (by omega)
      obtain ⟨c1, c2⟩ := ofF_in l b1 a1 (by omega) (fun q hq => ⟨by have := (hl q (List.mem_cons_of_mem _ hq)).1; omega, fun x hx => ((hl q (List.mem_cons_of_mem _ hq)).2 x hx).up a2⟩) h
      refine ⟨fun p hp => c1 p (b2 p hp), fun u hr hu p hp => ?_⟩
      rcases List.mem_cons.1 hp with rfl | hp
      · have := b3 u hr fun p hp => hu p (c1 p hp)
        dsimp only
        rwa [Int.toNat_natCast]
      · exact c2 u hr hu p hp
end Go.Proofs.Ytjkfieilaahejaa
