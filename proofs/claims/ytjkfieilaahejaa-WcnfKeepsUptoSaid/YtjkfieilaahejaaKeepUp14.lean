/-
  Lengths of the productions' own nonterminals are carried on to the helpers.
-/
import Derived.Test.YtjkfieilaahejaaKeepMath14
namespace Go.Proofs.Ytjkfieilaahejaa
open Go.RowKit
set_option linter.unusedVariables false
set_option linter.unusedSimpArgs false
def Ext (s : Fs) (u : Nat → Int) : Prop := Rng u ∧ ClosedP s.ps u ∧ (∀ k m, s.lab k = some m → u m = 1) ∧ ∀ m, s.e = some m → u m = 0
def Agree (n : Nat) (u u' : Nat → Int) : Prop := ∀ k, k < n → u' k = u k
theorem Agree.refl (n : Nat) (u : Nat → Int) : Agree n u u := fun _ _ => rfl
theorem Agree.trans {n m : Nat} {a b c : Nat → Int} (h : Agree n a b) (k : Agree m b c) (hm : n ≤ m) : Agree n a c := fun i hi => (k i (by omega)).trans (h i hi)
theorem agree_upd (n : Nat) (u : Nat → Int) (x : Int) : Agree n u (updS u n x) := fun k hk => if_neg (by omega)
theorem upd_at (n : Nat) (u : Nat → Int) (x : Int) : updS u n x n = x := if_pos rfl
theorem rng_upd {u : Nat → Int} (h : Rng u) (n : Nat) {x : Int} (hx : x ≤ 65) : Rng (updS u n x) := fun k => by
  unfold updS
  split
  · exact hx
  · exact h k
theorem long_agree {n : Nat} {u u' : Nat → Int} (h : Agree n u u') {l : List Sy} (hl : ∀ x ∈ l, symOK n x) (a : Int) : long u' l a = long u l a :=
  long_congr l a fun x hx hb => h _ (by have := (hl x hx).1; have := (hl x hx).2.2 hb; omega)
theorem closed_agree {n : Nat} {ps : List (Int × List Sy)} {u u' : Nat → Int} (hp : PsOK n ps) (h : Agree n u u') (hc : ClosedP ps u) : ClosedP ps u' := fun p hm => by
  obtain ⟨h1, _, h3⟩ := hp p hm
  rw [long_agree h h3, h _ (by omega)]
  exact hc p hm
theorem labF_ext {s : Fs} {u : Nat → Int} {k : Nat} (h : Ext s u) (ho : FsOK s) : ∃ u', Agree s.n u u' ∧ Ext (labF s k).1 u' ∧ u' (labF s k).2 = 1 := by
  unfold labF
  split
  · rename_i m hm; exact ⟨u, Agree.refl _ _, h, h.2.2.1 k m hm⟩
  · have hag := agree_upd s.n u 1
    refine ⟨updS u s.n 1, hag, ⟨rng_upd h.1 _ (by decide), ClosedP.app.2 ⟨closed_agree ho.1 hag h.2.1, ClosedP.one.2 ?_⟩, fun j m hj => ?_, fun m hm => ?_⟩, upd_at _ _ _⟩
    · dsimp only
      rw [Int.toNat_natCast, upd_at]
      exact .inr ⟨by decide, by rw [show long (updS u s.n 1) [((true, (k : Int)) : Sy)] 0 = 1 from rfl]; decide⟩
    · dsimp only at hj
      unfold updL at hj
      split at hj
      · cases hj; exact upd_at _ _ _
      · rw [hag m (ho.2.1 j m hj)]; exact h.2.2.1 j m hj
    · rw [hag m (ho.2.2 m hm)]; exact h.2.2.2 m hm
theorem empF_ext {s : Fs} {u : Nat → Int} (h : Ext s u) (ho : FsOK s) : ∃ u', Agree s.n u u' ∧ Ext (empF s).1 u' ∧ u' (empF s).2 = 0 := by
  unfold empF
  split
  · rename_i m hm; exact ⟨u, Agree.refl _ _, h, h.2.2.2 m hm⟩
  · have hag := agree_upd s.n u 0
    refine ⟨updS u s.n 0, hag, ⟨rng_upd h.1 _ (by decide), ClosedP.app.2 ⟨closed_agree ho.1 hag h.2.1, ClosedP.one.2 ?_⟩, fun j m hj => ?_, fun m hm => ?_⟩, upd_at _ _ _⟩
    · dsimp only
      rw [Int.toNat_natCast, upd_at]
      exact .inr ⟨by decide, by unfold long; decide⟩
    · rw [hag m (ho.2.1 j m hj)]; exact h.2.2.1 j m hj
    · dsimp only at hm
      cases hm
      exact upd_at _ _ _
theorem lab1_ext {s : Fs} {u : Nat → Int} {x : Sy} (h : Ext s u) (ho : FsOK s) (hx : symOK s.n x) : ∃ u', Agree s.n u u' ∧ Ext (lab1 s x).1 u' ∧ ∀ l a, 0 ≤ a → long u' ((lab1 s x).2 :: l) a = long u' (x :: l) a := by
  obtain ⟨b, n⟩ := x
  cases b with
  | false => exact ⟨u, Agree.refl _ _, h, fun l a _ => rfl⟩
  | true =>
    obtain ⟨u', h1, h2, h3⟩ := labF_ext (k := n.toNat) h ho
    refine ⟨u', h1, h2, fun l a ha => ?_⟩
    show long u' ((false, ((labF s n.toNat).2 : Int)) :: l) a = long u' ((true, n) :: l) a
    rw [long, long]
    simp only [Bool.false_eq_true, if_false, if_true, Int.toNat_natCast, h3]
    rw [if_neg (by decide)]
theorem labsF_ext : ∀ (l : List Sy) {s : Fs} {u : Nat → Int}, Ext s u → FsOK s → (∀ x ∈ l, symOK s.n x) → ∃ u', Agree s.n u u' ∧ Ext (labsF l s).1 u' ∧ ∀ a, 0 ≤ a → long u' (labsF l s).2 a = long u l a
  | [], s, u, h, _, _ => ⟨u, Agree.refl _ _, h, fun _ _ => rfl⟩
  | x :: l, s, u, h, ho, hl => by
    have hx := hl x (List.mem_cons_self ..)
    obtain ⟨u1, a1, a2, a3⟩ := lab1_ext h ho hx
    obtain ⟨b1, b2, b3⟩ := lab1_ok ho hx
    have hl' : ∀ y ∈ l, symOK s.n y := fun y hy => hl y (List.mem_cons_of_mem _ hy)
    obtain ⟨u2, c1, c2, c3⟩ := labsF_ext l a2 b1 fun y hy => (hl' y hy).up b2
    refine ⟨u2, a1.trans c1 b2, c2, fun a ha => ?_⟩
    show long u2 ((lab1 s x).2 :: (labsF l (lab1 s x).1).2) a = long u (x :: l) a
    have hag := a1.trans c1 b2
    -- the first symbol
    have e1 : long u2 ((lab1 s x).2 :: (labsF l (lab1 s x).1).2) a = long u1 ((lab1 s x).2 :: l) a := by
      obtain ⟨y, hy⟩ : ∃ y, y = (lab1 s x).2 := ⟨_, rfl⟩
      rw [← hy] at b3 ⊢
      obtain ⟨yb, yn⟩ := y
      obtain ⟨y1, y2, y3⟩ := b3
      dsimp only at y1 y2 y3
      subst y1
      rw [long, long]
      simp only [Bool.false_eq_true, if_false]
      rw [c1 yn.toNat (by omega)]
      by_cases hn : u1 yn.toNat < 0
      · rw [if_pos hn, if_pos hn]
      · rw [if_neg hn, if_neg hn]
        exact c3 _ (cap_rng (by omega)).1
    rw [e1, a3 l a ha]
    exact long_agree a1 hl a
theorem addF_ext {s : Fs} {u : Nat → Int} {h : Nat} {l : List Sy} (hs : Ext s u) (hc : lei (u h) (long u l 0)) : Ext (addF s h l) u := ⟨hs.1, ClosedP.app.2 ⟨hs.2.1, ClosedP.one.2 (by dsimp only; rwa [Int.toNat_natCast])⟩, hs.2.2.1, hs.2.2.2⟩
theorem chainF_ext : ∀ (l : List Sy) {s : Fs} {u : Nat → Int} {h : Nat}, Ext s u → FsOK s → h < s.n → (∀ x ∈ l, NtOK s.n x) → lei (u h) (long u l 0) → ∃ u', Agree s.n u u' ∧ Ext (chainF l s h) u'
  | [], s, u, h, hs, _, _, _, hc => ⟨u, Agree.refl _ _, addF_ext hs hc⟩
  | [x], s, u, h, hs, _, _, _, hc => ⟨u, Agree.refl _ _, addF_ext hs hc⟩
  | [x, y], s, u, h, hs, _, _, _, hc => ⟨u, Agree.refl _ _, addF_ext hs hc⟩
  | x :: y :: z :: l, s, u, h, hs, ho, hh, hl, hc => by
    unfold chainF
    split
    · exact ⟨u, Agree.refl _ _, hs.1, hs.2.1, hs.2.2.1, hs.2.2.2⟩
    · have hx := hl x (List.mem_cons_self ..)
      have hr : ∀ w ∈ y :: z :: l, NtOK s.n w := fun w hw => hl w (List.mem_cons_of_mem _ hw)
      have hag := agree_upd s.n u (long u (y :: z :: l) 0)
      have hlr := long_rng (s := u) (y :: z :: l) 0 (by decide) (by decide)
      have hrest : long (updS u s.n (long u (y :: z :: l) 0)) (y :: z :: l) 0 = long u (y :: z :: l) 0 := long_agree hag (fun w hw => (hr w hw).ok) 0
      have hall : long (updS u s.n (long u (y :: z :: l) 0)) (x :: y :: z :: l) 0 = long u (x :: y :: z :: l) 0 := long_agree hag (fun w hw => (hl w hw).ok) 0
      have hrg := rng_upd hs.1 s.n (x := long u (y :: z :: l) 0) (by omega)
      have hE : Ext { s with n := s.n + 1, ps := s.ps ++ [((h : Int), [x, (false, (s.n : Int))])] } (updS u s.n (long u (y :: z :: l) 0)) := by
        refine ⟨hrg, ClosedP.app.2 ⟨closed_agree ho.1 hag hs.2.1, ClosedP.one.2 ?_⟩, fun k m hm => ?_, fun m hm => ?_⟩
        · dsimp only
          rw [Int.toNat_natCast, hag h hh, long_pair_eq hx.1 (hrg _) (by rw [upd_at, hrest]), hall]
          exact hc
        · rw [hag m (ho.2.1 k m hm)]; exact hs.2.2.1 k m hm
        · rw [hag m (ho.2.2 m hm)]; exact hs.2.2.2 m hm
      have hO : FsOK { s with n := s.n + 1, ps := s.ps ++ [((h : Int), [x, (false, (s.n : Int))])] } := ⟨(ho.1.up (Nat.le_succ _)).push ⟨by omega, by have := hh; omega⟩ (weak_two hx.1 rfl) fun w hw => by
          rcases List.mem_cons.1 hw with e | e
          · exact e ▸ (hx.up (Nat.le_succ _)).ok
          · rw [List.mem_singleton.1 e]; exact nt_ok (Nat.lt_succ_self _),
        fun k m hm => Nat.lt_succ_of_lt (ho.2.1 k m hm), fun m hm => Nat.lt_succ_of_lt (ho.2.2 m hm)⟩
      obtain ⟨u', a1, a2⟩ := chainF_ext (y :: z :: l) (h := s.n) hE hO (Nat.lt_succ_self _) (fun w hw => (hr w hw).up (Nat.le_succ _)) (by rw [upd_at, hrest]; exact lei_refl _)
      exact ⟨u', hag.trans a1 (Nat.le_succ _), a2⟩
theorem formF_ext {s : Fs} {u : Nat → Int} {h : Nat} {l : List Sy} (hs : Ext s u) (ho : FsOK s) (hh : h < s.n) (hl : ∀ x ∈ l, symOK s.n x) (hc : lei (u h) (long u l 0)) : ∃ u', Agree s.n u u' ∧ Ext (formF s h l) u' := by
  unfold formF
  split
  · exact ⟨u, Agree.refl _ _, addF_ext hs hc⟩
  · rename_i hb
    split
    · rename_i h1
      obtain ⟨u1, a1, a2, a3⟩ := empF_ext hs ho
      obtain ⟨o1, o2, o3⟩ := empF_ok ho
      have hl2 : ∀ x ∈ l ++ [(false, ((empF s).2 : Int))], symOK (empF s).1.n x := fun x hx => (List.mem_append.1 hx).elim (fun q => (hl x q).up o3) fun q => by rw [List.mem_singleton.1 q]; exact nt_ok o2
      obtain ⟨u2, b1, b2, b3⟩ := labsF_ext _ a2 o1 hl2
      obtain ⟨p1, p2, p3⟩ := labsF_ok _ o1 hl2
      have hc2 : lei (u2 h) (long u2 (labsF (l ++ [(false, ((empF s).2 : Int))]) (empF s).1).2 0) := by
        rw [b3 0 (by decide), b1 h (by omega), a1 h hh]
        refine lei_trans hc ?_
        match l, h1, hb, hl with
        | [(b, k)], _, hb, hl =>
          cases b with
          | true => exact absurd rfl hb
          | false =>
            have hk := hl _ (List.mem_cons_self ..)
            have hk1 := hk.1
            have hk2 := hk.2.2 rfl
            dsimp only at hk1 hk2
            show lei (long u [(false, k)] 0) (long u1 ((false, k) :: [(false, ((empF s).2 : Int))]) 0)
            have e1 : u1 k.toNat = u k.toNat := a1 _ (by omega)
            unfold long
            simp only [Bool.false_eq_true, if_false, e1]
            by_cases hz : u k.toNat < 0
            · rw [if_pos hz, if_pos hz]; exact .inl (by decide)
            · rw [if_neg hz, if_neg hz]
              unfold long
              simp only [Bool.false_eq_true, if_false, Int.toNat_natCast, a3]
              rw [if_neg (by decide)]
              have r := cap_rng (x := 0 + u k.toNat) (by omega)
              unfold long
              rw [Int.add_zero, cap_low r.2.1]
              exact lei_refl _
      obtain ⟨u3, c1, c2⟩ := chainF_ext _ (h := h) b2 p1 (by omega) p3 hc2
      exact ⟨u3, a1.trans (b1.trans c1 p2) o3, c2⟩
    · obtain ⟨u2, b1, b2, b3⟩ := labsF_ext _ hs ho hl
      obtain ⟨p1, p2, p3⟩ := labsF_ok _ ho hl
      obtain ⟨u3, c1, c2⟩ := chainF_ext _ (h := h) b2 p1 (by omega) p3 (by rw [b3 0 (by decide), b1 h hh]; exact hc)
      exact ⟨u3, b1.trans c1 p2, c2⟩
theorem ofF_ext : ∀ (l : List (Int × List Sy)) {s s' : Fs} {u : Nat → Int} {S : Nat}, Ext s u → FsOK s → s.n ≤ 1024 → S ≤ s.n → (∀ p ∈ l, (0 ≤ p.1 ∧ p.1 < S) ∧ ∀ x ∈ p.2, symOK S x) → ClosedP l u → ofF l s = some s' → ∃ u', Agree S u u' ∧ Ext s' u'
  | [], s, s', u, S, hs, _, _, _, _, _, h => by cases h; exact ⟨u, Agree.refl _ _, hs⟩
  | (h0, b) :: l, s, s', u, S, hs, ho, hn, hS, hl, hc, h => by
    unfold ofF at h
    split at h
    · cases h
    · rename_i hq
      obtain ⟨h1, h2⟩ := hl (h0, b) (List.mem_cons_self ..)
      have hc0 := hc (h0, b) (List.mem_cons_self ..)
      dsimp only at h1 h2 hq h hc0
      obtain ⟨k, rfl⟩ : ∃ k : Nat, h0 = (k : Int) := ⟨h0.toNat, by omega⟩
      rw [Int.toNat_natCast] at hc0
      obtain ⟨a1, a2⟩ := formF_ok (h := (k : Int)) ho ⟨h1.1, by omega⟩ fun x hx => (h2 x hx).up hS
      obtain ⟨u1, b1, b2⟩ := formF_ext (h := k) hs ho (by omega) (fun x hx => (h2 x hx).up hS) hc0
      have hl' : ∀ p ∈ l, (0 ≤ p.1 ∧ p.1 < S) ∧ ∀ x ∈ p.2, symOK S x := fun p hp => hl p (List.mem_cons_of_mem _ hp)
      have hag : Agree S u u1 := fun i hi => b1 i (by omega)
      obtain ⟨u2, c1, c2⟩ := ofF_ext l (S := S) b2 a1 (by omega) (by omega) hl' (fun p hp => by
        obtain ⟨g1, g2⟩ := hl' p hp
        rw [long_agree hag g2, hag _ (by omega)]
        exact hc p (List.mem_cons_of_mem _ hp)) h
      exact ⟨u2, hag.trans c1 (Nat.le_refl _), c2⟩
/-- The first nonterminals' shortest words are as long as before. -/
theorem keeps_math {S : Nat} {T R : List Tr} {s : Fs} {a t : Nat → Int} (hok : CnfOK (S : Int) T) (hof : ofF (T.map pl) (Fs0 S) = some s) (hR : ∀ x, x ∈ R.map pl ↔ x ∈ s.ps)
    (ca : ClosedS T a) (la : LeastS T a) (ra : RngS a) (ct : ClosedS R t) (lt : LeastS R t) (rt : RngS t) {k : Nat} (hk : k < S) : a k = t k := by
  have hS2 : S ≤ 1024 := by have := hok.1.2; omega
  have hps : ∀ u, ClosedP s.ps u ↔ ClosedS R u := fun u => by
    constructor
    · intro h r hr
      exact h (pl r) ((hR _).1 (List.mem_map_of_mem hr))
    · intro h p hp
      obtain ⟨r, hr, rfl⟩ := List.mem_map.1 ((hR p).2 hp)
      exact h r hr
  have hpT : ∀ u, ClosedP (T.map pl) u ↔ ClosedS T u := fun u => by
    constructor
    · intro h r hr
      exact h (pl r) (List.mem_map_of_mem hr)
    · intro h p hp
      obtain ⟨r, hr, rfl⟩ := List.mem_map.1 hp
      exact h r hr
  have h1 : ClosedS T t := (hpT t).1 ((ofF_in _ ⟨(fun k m hm => by cases hm), fun m hm => by cases hm⟩ (Fs0_ok S) hS2 (cnf_pl hok) hof).2 t (fun k => (rt k).2) ((hps t).2 ct))
  obtain ⟨u, hu1, hu2⟩ := ofF_ext _ (S := S) (u := a) ⟨fun k => (ra k).2, (fun p hp => by cases hp), (fun k m hm => by cases hm), fun m hm => by cases hm⟩ (Fs0_ok S) hS2 (Nat.le_refl _) (cnf_pl hok) ((hpT a).2 ca) hof
  have h2 := la t h1 k
  have h3 := lt u ((hps u).1 hu2.2.1) k
  rw [hu1 k hk] at h3
  have r1 := ra k
  have r2 := rt k
  unfold lei at h2 h3
  omega
end Go.Proofs.Ytjkfieilaahejaa
