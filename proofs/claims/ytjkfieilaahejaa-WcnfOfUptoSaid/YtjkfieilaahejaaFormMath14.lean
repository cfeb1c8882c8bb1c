/-
  The weak form, as lists: what it adds, that it is weak.
-/
import Derived.Test.YtjkfieilaahejaaForm14
namespace Go.Proofs.Ytjkfieilaahejaa
open Go.RowKit
set_option linter.unusedVariables false
set_option linter.unusedSimpArgs false
def Fs0 (S : Nat) : Fs := { n := S, lab := fun _ => none, e := none, ps := [] }
/-- The weak form of productions; none: there are too many nonterminals. -/
def ofF : List (Int × List Sy) → Fs → Option Fs
  | [], s => some s
  | p :: ps, s => if 1024 < (formF s p.1 p.2).n then none else ofF ps (formF s p.1 p.2)
theorem ofF_snoc (p : Int × List Sy) : ∀ (l : List (Int × List Sy)) (s s' : Fs), ofF l s = some s' → ofF (l ++ [p]) s = if 1024 < (formF s' p.1 p.2).n then none else some (formF s' p.1 p.2)
  | [], s, s', h => by
    cases h
    rfl
  | q :: l, s, s', h => by
    unfold ofF at h
    split at h
    · cases h
    · rename_i hq
      show (if 1024 < (formF s q.1 q.2).n then none else ofF (l ++ [p]) (formF s q.1 q.2)) = _
      rw [if_neg hq]
      exact ofF_snoc p l _ _ h
theorem ofF_app_none : ∀ (l r : List (Int × List Sy)) (s : Fs), ofF l s = none → ofF (l ++ r) s = none
  | [], r, s, h => by cases h
  | q :: l, r, s, h => by
    unfold ofF at h
    show (if 1024 < (formF s q.1 q.2).n then none else ofF (l ++ r) (formF s q.1 q.2)) = _
    split at h
    · rename_i hq; rw [if_pos hq]
    · rename_i hq; rw [if_neg hq]; exact ofF_app_none l r _ h
theorem chainF_len : ∀ (l : List Sy) (s : Fs) (h : Int), (chainF l s h).n ≤ s.n + l.length ∧ (chainF l s h).ps.length ≤ s.ps.length + l.length + 1
  | [], s, h => by unfold chainF addF; simp
  | [x], s, h => by unfold chainF addF; simp
  | [x, y], s, h => by unfold chainF addF; simp
  | x :: y :: z :: l, s, h => by
    unfold chainF
    split
    · simp; omega
    · have := chainF_len (y :: z :: l) { s with n := s.n + 1, ps := s.ps ++ [(h, [x, (false, (s.n : Int))])] } s.n
      simp at this ⊢
      omega
theorem lab1_len (s : Fs) (x : Sy) : (lab1 s x).1.n ≤ s.n + 1 ∧ (lab1 s x).1.ps.length ≤ s.ps.length + 1 := by
  unfold lab1
  split
  · exact labF_len _ _
  · exact ⟨Nat.le_succ _, Nat.le_succ _⟩
theorem labsF_len : ∀ (l : List Sy) (s : Fs), (labsF l s).1.n ≤ s.n + l.length ∧ (labsF l s).1.ps.length ≤ s.ps.length + l.length ∧ (labsF l s).2.length = l.length
  | [], s => ⟨Nat.le_refl _, Nat.le_refl _, rfl⟩
  | x :: l, s => by
    have h1 := lab1_len s x
    have h2 := labsF_len l (lab1 s x).1
    unfold labsF
    simp
    omega
theorem formF_len (s : Fs) (h : Int) (l : List Sy) : (formF s h l).n ≤ s.n + (l.length + 3) * 3 ∧ (formF s h l).ps.length ≤ s.ps.length + (l.length + 3) * 3 := by
  unfold formF
  split
  · unfold addF; simp; omega
  · split
    · have h1 := empF_len s
      have h2 := labsF_len (l ++ [(false, ((empF s).2 : Int))]) (empF s).1
      have h3 := chainF_len (labsF (l ++ [(false, ((empF s).2 : Int))]) (empF s).1).2 (labsF (l ++ [(false, ((empF s).2 : Int))]) (empF s).1).1 h
      rw [h2.2.2] at h3
      simp at h2 h3
      omega
    · have h2 := labsF_len l s
      have h3 := chainF_len (labsF l s).2 (labsF l s).1 h
      rw [h2.2.2] at h3
      omega
/-- The productions of a weak form of n nonterminals. -/
def PsOK (n : Nat) (ps : List (Int × List Sy)) : Prop := ∀ p ∈ ps, (0 ≤ p.1 ∧ p.1 < n) ∧ weakB p.2 = true ∧ ∀ x ∈ p.2, symOK n x
def FsOK (s : Fs) : Prop := PsOK s.n s.ps ∧ (∀ k m, s.lab k = some m → m < s.n) ∧ ∀ m, s.e = some m → m < s.n
theorem symOK.up {n m : Nat} {x : Sy} (h : symOK n x) (hm : n ≤ m) : symOK m x := ⟨h.1, h.2.1, fun e => by have := h.2.2 e; omega⟩
theorem PsOK.up {n m : Nat} {ps : List (Int × List Sy)} (h : PsOK n ps) (hm : n ≤ m) : PsOK m ps := fun p hp => by
  obtain ⟨h1, h2, h3⟩ := h p hp
  exact ⟨by omega, h2, fun x hx => (h3 x hx).up hm⟩
theorem PsOK.push {n : Nat} {ps : List (Int × List Sy)} {h : Int} {l : List Sy} (hp : PsOK n ps) (h1 : 0 ≤ h ∧ h < n) (h2 : weakB l = true) (h3 : ∀ x ∈ l, symOK n x) : PsOK n (ps ++ [(h, l)]) := fun p hm =>
  (List.mem_append.1 hm).elim (hp p) fun e => by rw [List.mem_singleton.1 e]; exact ⟨h1, h2, h3⟩
theorem nt_ok {n m : Nat} (h : m < n) : symOK n (false, (m : Int)) := ⟨(by dsimp only; omega), (fun e => by cases e), fun _ => by dsimp only; omega⟩
theorem addF_ok {s : Fs} {h : Int} {l : List Sy} (hs : FsOK s) (h1 : 0 ≤ h ∧ h < s.n) (h2 : weakB l = true) (h3 : ∀ x ∈ l, symOK s.n x) : FsOK (addF s h l) := ⟨hs.1.push h1 h2 h3, hs.2.1, hs.2.2⟩
theorem labF_ok {s : Fs} {k : Nat} (hs : FsOK s) (hk : k < 16) : FsOK (labF s k).1 ∧ (labF s k).2 < (labF s k).1.n ∧ s.n ≤ (labF s k).1.n := by
  unfold labF
  split
  · rename_i m hm; exact ⟨hs, hs.2.1 k m hm, Nat.le_refl _⟩
  · refine ⟨⟨(hs.1.up (Nat.le_succ _)).push ⟨by omega, by omega⟩ rfl fun x hx => ?_, fun j m hj => ?_, fun m hm => Nat.lt_succ_of_lt (hs.2.2 m hm)⟩, Nat.lt_succ_self _, Nat.le_succ _⟩
    · rw [List.mem_singleton.1 hx]
      exact ⟨(by dsimp only; omega), (fun _ => by dsimp only; omega), fun e => by cases e⟩
    · dsimp only at hj ⊢
      unfold updL at hj
      split at hj
      · cases hj; omega
      · have := hs.2.1 j m hj; omega
theorem empF_ok {s : Fs} (hs : FsOK s) : FsOK (empF s).1 ∧ (empF s).2 < (empF s).1.n ∧ s.n ≤ (empF s).1.n := by
  unfold empF
  split
  · rename_i m hm; exact ⟨hs, hs.2.2 m hm, Nat.le_refl _⟩
  · refine ⟨⟨(hs.1.up (Nat.le_succ _)).push ⟨by omega, by omega⟩ rfl (fun x hx => by cases hx), fun k m hm => Nat.lt_succ_of_lt (hs.2.1 k m hm), fun m hm => ?_⟩, Nat.lt_succ_self _, Nat.le_succ _⟩
    dsimp only at hm ⊢
    cases hm
    omega
def NtOK (n : Nat) (x : Sy) : Prop := x.1 = false ∧ 0 ≤ x.2 ∧ x.2 < n
theorem NtOK.ok {n : Nat} {x : Sy} (h : NtOK n x) : symOK n x := ⟨h.2.1, (fun e => by rw [h.1] at e; cases e), fun _ => h.2.2⟩
theorem NtOK.up {n m : Nat} {x : Sy} (h : NtOK n x) (hm : n ≤ m) : NtOK m x := ⟨h.1, h.2.1, by have := h.2.2; omega⟩
theorem lab1_ok {s : Fs} {x : Sy} (hs : FsOK s) (hx : symOK s.n x) : FsOK (lab1 s x).1 ∧ s.n ≤ (lab1 s x).1.n ∧ NtOK (lab1 s x).1.n (lab1 s x).2 := by
  unfold lab1
  split
  · rename_i hb
    have h1 := hx.1
    have h2 := hx.2.1 hb
    obtain ⟨a, b, c⟩ := labF_ok (k := x.2.toNat) hs (by omega)
    exact ⟨a, c, rfl, by dsimp only; omega, by dsimp only; omega⟩
  · rename_i hb
    have hb' : x.1 = false := by simpa using hb
    exact ⟨hs, Nat.le_refl _, hb', hx.1, hx.2.2 hb'⟩
theorem labsF_ok : ∀ (l : List Sy) {s : Fs}, FsOK s → (∀ x ∈ l, symOK s.n x) → FsOK (labsF l s).1 ∧ s.n ≤ (labsF l s).1.n ∧ ∀ y ∈ (labsF l s).2, NtOK (labsF l s).1.n y
  | [], s, hs, _ => ⟨hs, Nat.le_refl _, fun y hy => by cases hy⟩
  | x :: l, s, hs, hl => by
    obtain ⟨a, b, c⟩ := lab1_ok hs (hl x (List.mem_cons_self ..))
    obtain ⟨d, e, f⟩ := labsF_ok l a fun y hy => (hl y (List.mem_cons_of_mem _ hy)).up b
    refine ⟨d, Nat.le_trans b e, fun y hy => ?_⟩
    rcases List.mem_cons.1 hy with h | h
    · exact h ▸ c.up e
    · exact f y h
theorem weak_two {x y : Sy} (hx : x.1 = false) (hy : y.1 = false) : weakB [x, y] = true := by
  obtain ⟨a, b⟩ := x
  obtain ⟨c, d⟩ := y
  cases hx
  cases hy
  rfl
theorem chainF_ok : ∀ (l : List Sy) {s : Fs} {h : Int}, FsOK s → (0 ≤ h ∧ h < s.n) → (∀ x ∈ l, NtOK s.n x) → 2 ≤ l.length → FsOK (chainF l s h) ∧ s.n ≤ (chainF l s h).n
  | [], s, h, _, _, _, h2 => by simp at h2
  | [x], s, h, _, _, _, h2 => by simp at h2
  | [x, y], s, h, hs, hh, hl, _ => by
    unfold chainF
    exact ⟨addF_ok hs hh (weak_two (hl x (by simp)).1 (hl y (by simp)).1) fun z hz => (hl z hz).ok, Nat.le_refl _⟩
  | x :: y :: z :: l, s, h, hs, hh, hl, _ => by
    unfold chainF
    split
    · exact ⟨⟨hs.1.up (Nat.le_succ _), fun k m hm => Nat.lt_succ_of_lt (hs.2.1 k m hm), fun m hm => Nat.lt_succ_of_lt (hs.2.2 m hm)⟩, Nat.le_succ _⟩
    · have hx := hl x (by simp)
      have h1 : FsOK { s with n := s.n + 1, ps := s.ps ++ [(h, [x, (false, (s.n : Int))])] } := ⟨(hs.1.up (Nat.le_succ _)).push ⟨hh.1, by have := hh.2; omega⟩ (weak_two hx.1 rfl) fun w hw => by
          rcases List.mem_cons.1 hw with e | e
          · exact e ▸ (hx.up (Nat.le_succ _)).ok
          · rw [List.mem_singleton.1 e]; exact nt_ok (Nat.lt_succ_self _),
        fun k m hm => Nat.lt_succ_of_lt (hs.2.1 k m hm), fun m hm => Nat.lt_succ_of_lt (hs.2.2 m hm)⟩
      obtain ⟨a, b⟩ := chainF_ok (y :: z :: l) (h := (s.n : Int)) h1 ⟨by omega, by simp; omega⟩ (fun w hw => (hl w (List.mem_cons_of_mem _ hw)).up (Nat.le_succ _)) (by simp)
      exact ⟨a, Nat.le_trans (Nat.le_succ _) b⟩
theorem short_weak {l : List Sy} (h : shortB l = true) : weakB l = true := by
  match l, h with
  | [], _ => rfl
  | [(b, k)], h => cases b with
    | true => rfl
    | false => cases h
  | _ :: _ :: _, h => cases h
theorem formF_ok {s : Fs} {h : Int} {l : List Sy} (hs : FsOK s) (hh : 0 ≤ h ∧ h < s.n) (hl : ∀ x ∈ l, symOK s.n x) : FsOK (formF s h l) ∧ s.n ≤ (formF s h l).n := by
  unfold formF
  split
  · rename_i hb
    exact ⟨addF_ok hs hh (short_weak hb) hl, Nat.le_refl _⟩
  · rename_i hb
    split
    · rename_i h1
      obtain ⟨a, b, c⟩ := empF_ok hs
      have hl2 : ∀ x ∈ l ++ [(false, ((empF s).2 : Int))], symOK (empF s).1.n x := fun x hx => (List.mem_append.1 hx).elim (fun q => (hl x q).up c) fun q => by rw [List.mem_singleton.1 q]; exact nt_ok b
      obtain ⟨d, e, f⟩ := labsF_ok _ a hl2
      obtain ⟨i, j⟩ := chainF_ok _ (h := h) d ⟨hh.1, by omega⟩ f (by rw [(labsF_len _ _).2.2]; simp; omega)
      exact ⟨i, by omega⟩
    · rename_i h1
      obtain ⟨d, e, f⟩ := labsF_ok _ hs hl
      have hlen : 2 ≤ l.length := by
        match l, h1, hb with
        | [], _, hb => exact absurd rfl hb
        | [_], h1, _ => exact absurd rfl h1
        | _ :: _ :: _, _, _ => simp
      obtain ⟨i, j⟩ := chainF_ok _ (h := h) d ⟨hh.1, by omega⟩ f (by rw [(labsF_len _ _).2.2]; exact hlen)
      exact ⟨i, by omega⟩
theorem ofF_ok : ∀ (l : List (Int × List Sy)) {s s' : Fs}, FsOK s → s.n ≤ 1024 → (∀ p ∈ l, (0 ≤ p.1 ∧ p.1 < s.n) ∧ ∀ x ∈ p.2, symOK s.n x) → ofF l s = some s' → FsOK s' ∧ s.n ≤ s'.n ∧ s'.n ≤ 1024
  | [], s, s', hs, hn, _, h => by cases h; exact ⟨hs, Nat.le_refl _, hn⟩
  | p :: l, s, s', hs, hn, hl, h => by
    unfold ofF at h
    split at h
    · cases h
    · rename_i hq
      obtain ⟨h1, h2⟩ := hl p (List.mem_cons_self ..)
      obtain ⟨a, b⟩ := formF_ok hs h1 h2
      obtain ⟨c, d, e⟩ := ofF_ok l a (by omega) (fun q hq => ⟨by have := (hl q (List.mem_cons_of_mem _ hq)).1; omega, fun x hx => ((hl q (List.mem_cons_of_mem _ hq)).2 x hx).up b⟩) h
      exact ⟨c, by omega, e⟩
theorem Fs0_ok (S : Nat) : FsOK (Fs0 S) := ⟨(fun p hp => by cases hp), (fun k m hm => by cases hm), fun m hm => by cases hm⟩
theorem cnf_pl {S : Nat} {T : List Tr} (hok : CnfOK (S : Int) T) : ∀ p ∈ T.map pl, (0 ≤ p.1 ∧ p.1 < ((Fs0 S).n : Int)) ∧ ∀ x ∈ p.2, symOK (Fs0 S).n x := fun p hp => by
  obtain ⟨t, ht, rfl⟩ := List.mem_map.1 hp
  exact hok.2 t ht
theorem weak_len {l : List Sy} (h : weakB l = true) : l.length ≤ 2 := by
  match l, h with
  | [], _ => simp
  | [_], _ => simp
  | [_, _], _ => simp
  | _ :: _ :: _ :: _, h => cases h
theorem formF_weak (s : Fs) (h : Int) {l : List Sy} (hl : weakB l = true) : formF s h l = addF s h l := by
  match l, hl with
  | [], _ => rfl
  | [(b, k)], hl => cases b with
    | true => rfl
    | false => cases hl
  | [(b, k), (c, j)], hl =>
    cases b with
    | true => cases hl
    | false =>
      cases c with
      | true => cases hl
      | false => rfl
  | _ :: _ :: _ :: _, hl => cases hl
theorem ofF_weak : ∀ (ps : List (Int × List Sy)) (s : Fs), s.n ≤ 1024 → (∀ p ∈ ps, weakB p.2 = true) → ofF ps s = some { s with ps := s.ps ++ ps }
  | [], s, _, _ => by unfold ofF; rw [List.append_nil]
  | p :: ps, s, hn, hl => by
    unfold ofF
    rw [formF_weak s p.1 (hl p (List.mem_cons_self ..)), if_neg (show ¬ 1024 < (addF s p.1 p.2).n by show ¬ 1024 < s.n; omega), ofF_weak ps (addF s p.1 p.2) hn fun q hq => hl q (List.mem_cons_of_mem _ hq)]
    unfold addF
    simp
end Go.Proofs.Ytjkfieilaahejaa
