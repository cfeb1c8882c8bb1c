/-
  What meets: frames and pops that come to nodes, reckoned plainly.
-/
import Derived.Test.YthpkbeooplpinaaNodesPre
namespace Go.Proofs.Ythpkbeooplpinaa
open Go.RowKit
set_option linter.unusedVariables false
set_option linter.unusedSimpArgs false
/-- A thing that comes: where (a node's number), what. -/
inductive Thing where
  | pop (k : Nat) (p : Int)
  | push (k : Nat) (f : Int × Int)
/-- A meeting: the node, the pop, the frame. -/
abbrev Mt := Nat × Int × (Int × Int)
def hasF (l : List Nd) (k : Nat) (f : Int × Int) : Prop := ∃ r, l[k]? = some r ∧ f ∈ r.fs
def hasP (l : List Nd) (k : Nat) (p : Int) : Prop := ∃ r, l[k]? = some r ∧ p ∈ r.ps
def total (l : List Nd) : Nat := (l.map fun r => r.fs.length * r.ps.length).sum
structure Inv (l : List Nd) (out : List Mt) : Prop where
  nodF : ∀ (k : Nat) (r : Nd), l[k]? = some r → r.fs.Nodup
  nodP : ∀ (k : Nat) (r : Nd), l[k]? = some r → r.ps.Nodup
  one : ∀ k p f, hasF l k f → hasP l k p → out.count (k, p, f) = 1
  none : ∀ k p f, ¬ (hasF l k f ∧ hasP l k p) → out.count (k, p, f) = 0
  len : out.length = total l
theorem total_set {l : List Nd} {k : Nat} {r r' : Nd} (h : l[k]? = some r) {d : Nat} (hd : r'.fs.length * r'.ps.length = r.fs.length * r.ps.length + d) : total (l.set k r') = total l + d := by
  unfold total
  induction l generalizing k with
  | nil => simp at h
  | cons y l ih =>
    cases k with
    | zero => simp at h; subst h; simp [hd]; omega
    | succ k => have := ih (by simpa using h); simp only [List.set_cons_succ, List.map_cons, List.sum_cons, this]; omega
theorem count_map_f (k : Nat) (p : Int) : ∀ (fs : List (Int × Int)), fs.Nodup → ∀ k' p' f, (fs.map fun f => ((k, p, f) : Mt)).count (k', p', f) = if k' = k ∧ p' = p ∧ f ∈ fs then 1 else 0
  | [], _, k', p', f => by simp
  | x :: fs, h, k', p', f => by
    rw [List.map_cons, List.count_cons, count_map_f k p fs (List.nodup_cons.1 h).2]
    have hx := (List.nodup_cons.1 h).1
    by_cases hk : k' = k ∧ p' = p
    · obtain ⟨rfl, rfl⟩ := hk
      by_cases hf : f = x
      · subst hf; simp [hx]
      · have : ¬ ((k', p', x) = (k', p', f)) := fun e => hf (by cases e; rfl)
        simp [hf, this, Ne.symm hf]
    · have h1 : ¬ (k' = k ∧ p' = p ∧ f ∈ fs) := fun e => hk ⟨e.1, e.2.1⟩
      have h2 : ¬ (k' = k ∧ p' = p ∧ f ∈ x :: fs) := fun e => hk ⟨e.1, e.2.1⟩
      have h3 : ((k, p, x) == (k', p', f)) = false := by
        rw [beq_eq_false_iff_ne]; intro e; cases e; exact hk ⟨rfl, rfl⟩
      rw [if_neg h1, if_neg h2, h3]; rfl
theorem count_map_p (k : Nat) (f : Int × Int) : ∀ (ps : List Int), ps.Nodup → ∀ k' p' f', (ps.map fun p => ((k, p, f) : Mt)).count (k', p', f') = if k' = k ∧ f' = f ∧ p' ∈ ps then 1 else 0
  | [], _, k', p', f' => by simp
  | x :: ps, h, k', p', f' => by
    rw [List.map_cons, List.count_cons, count_map_p k f ps (List.nodup_cons.1 h).2]
    have hx := (List.nodup_cons.1 h).1
    by_cases hk : k' = k ∧ f' = f
    · obtain ⟨rfl, rfl⟩ := hk
      by_cases hf : p' = x
      · subst hf; simp [hx]
      · have : ¬ ((k', x, f') = (k', p', f')) := fun e => hf (by cases e; rfl)
        simp [hf, this, Ne.symm hf]
    · have h1 : ¬ (k' = k ∧ f' = f ∧ p' ∈ ps) := fun e => hk ⟨e.1, e.2.1⟩
      have h2 : ¬ (k' = k ∧ f' = f ∧ p' ∈ x :: ps) := fun e => hk ⟨e.1, e.2.1⟩
      have h3 : ((k, x, f) == (k', p', f')) = false := by
        rw [beq_eq_false_iff_ne]; intro e; cases e; exact hk ⟨rfl, rfl⟩
      rw [if_neg h1, if_neg h2, h3]; rfl
theorem hasF_set {l : List Nd} {k : Nat} {r r' : Nd} (h : l[k]? = some r) (k' : Nat) (f : Int × Int) : hasF (l.set k r') k' f ↔ if k' = k then f ∈ r'.fs else hasF l k' f := by
  have hk : k < l.length := (List.getElem?_eq_some_iff.1 h).1
  by_cases e : k' = k
  · subst e
    rw [if_pos rfl]
    exact ⟨fun ⟨s, hs, hf⟩ => by rw [List.getElem?_set_self hk] at hs; cases hs; exact hf, fun hf => ⟨r', List.getElem?_set_self hk, hf⟩⟩
  · rw [if_neg e]
    unfold hasF
    rw [List.getElem?_set_ne (fun e' => e e'.symm)]
theorem hasP_set {l : List Nd} {k : Nat} {r r' : Nd} (h : l[k]? = some r) (k' : Nat) (p : Int) : hasP (l.set k r') k' p ↔ if k' = k then p ∈ r'.ps else hasP l k' p := by
  have hk : k < l.length := (List.getElem?_eq_some_iff.1 h).1
  by_cases e : k' = k
  · subst e
    rw [if_pos rfl]
    exact ⟨fun ⟨s, hs, hf⟩ => by rw [List.getElem?_set_self hk] at hs; cases hs; exact hf, fun hf => ⟨r', List.getElem?_set_self hk, hf⟩⟩
  · rw [if_neg e]
    unfold hasP
    rw [List.getElem?_set_ne (fun e' => e e'.symm)]
theorem hasF_at {l : List Nd} {k : Nat} {r : Nd} (h : l[k]? = some r) (f : Int × Int) : hasF l k f ↔ f ∈ r.fs := ⟨fun ⟨s, hs, hf⟩ => by rw [h] at hs; cases hs; exact hf, fun hf => ⟨r, h, hf⟩⟩
theorem hasP_at {l : List Nd} {k : Nat} {r : Nd} (h : l[k]? = some r) (p : Int) : hasP l k p ↔ p ∈ r.ps := ⟨fun ⟨s, hs, hf⟩ => by rw [h] at hs; cases hs; exact hf, fun hf => ⟨r, h, hf⟩⟩
theorem Inv.pop {l : List Nd} {out : List Mt} (h : Inv l out) {k : Nat} {r : Nd} (hr : l[k]? = some r) {p : Int} (hp : p ∉ r.ps) : Inv (l.set k ⟨r.mark, r.place, r.fs, r.ps ++ [p]⟩) (out ++ r.fs.map fun f => (k, p, f)) := by
  have hnF := h.nodF k r hr
  refine ⟨fun j s hs => ?_, fun j s hs => ?_, fun k' p' f hf hp' => ?_, fun k' p' f hn => ?_, ?_⟩
  · rcases set_get hs with ⟨rfl, _, rfl⟩ | ⟨_, hs⟩
    · exact hnF
    · exact h.nodF j s hs
  · rcases set_get hs with ⟨rfl, _, rfl⟩ | ⟨_, hs⟩
    · exact List.nodup_append.2 ⟨h.nodP _ r hr, by simp, by intro a ha b hb e; simp at hb; subst hb; subst e; exact hp ha⟩
    · exact h.nodP j s hs
  · rw [List.count_append, count_map_f k p _ hnF]
    rw [hasF_set hr] at hf
    rw [hasP_set hr] at hp'
    by_cases e : k' = k
    · subst e
      rw [if_pos rfl] at hf hp'
      simp at hf hp'
      rcases hp' with hp' | rfl
      · rw [h.one k' p' f ((hasF_at hr f).2 hf) ((hasP_at hr p').2 hp'), if_neg (fun (e : k' = k' ∧ p' = p ∧ f ∈ r.fs) => hp (e.2.1 ▸ hp'))]
      · rw [h.none k' p' f (fun e => hp ((hasP_at hr p').1 e.2)), if_pos ⟨rfl, rfl, hf⟩]
    · rw [if_neg e] at hf hp'
      rw [h.one k' p' f hf hp', if_neg (fun e' => e e'.1)]
  · rw [List.count_append, count_map_f k p _ hnF]
    rw [hasF_set hr, hasP_set hr] at hn
    by_cases e : k' = k
    · subst e
      rw [if_pos rfl, if_pos rfl] at hn
      simp at hn
      rw [h.none k' p' f (fun e => (hn ((hasF_at hr f).1 e.1)).1 ((hasP_at hr p').1 e.2)), if_neg (fun (e : k' = k' ∧ p' = p ∧ f ∈ r.fs) => (hn e.2.2).2 e.2.1)]
    · rw [if_neg e, if_neg e] at hn
      rw [h.none k' p' f hn, if_neg (fun e' => e e'.1)]
  · rw [List.length_append, List.length_map, h.len, total_set hr (d := r.fs.length)]
    simp [Nat.mul_add]
theorem Inv.push {l : List Nd} {out : List Mt} (h : Inv l out) {k : Nat} {r : Nd} (hr : l[k]? = some r) {f : Int × Int} (hf : f ∉ r.fs) : Inv (l.set k ⟨r.mark, r.place, r.fs ++ [f], r.ps⟩) (out ++ r.ps.map fun p => (k, p, f)) := by
  have hnP := h.nodP k r hr
  refine ⟨fun j s hs => ?_, fun j s hs => ?_, fun k' p f' hf' hp => ?_, fun k' p f' hn => ?_, ?_⟩
  · rcases set_get hs with ⟨rfl, _, rfl⟩ | ⟨_, hs⟩
    · exact List.nodup_append.2 ⟨h.nodF _ r hr, by simp, by intro a ha b hb e; simp at hb; subst hb; subst e; exact hf ha⟩
    · exact h.nodF j s hs
  · rcases set_get hs with ⟨rfl, _, rfl⟩ | ⟨_, hs⟩
    · exact hnP
    · exact h.nodP j s hs
  · rw [List.count_append, count_map_p k f _ hnP]
    rw [hasF_set hr] at hf'
    rw [hasP_set hr] at hp
    by_cases e : k' = k
    · subst e
      rw [if_pos rfl] at hf' hp
      simp at hf' hp
      rcases hf' with hf' | rfl
      · rw [h.one k' p f' ((hasF_at hr f').2 hf') ((hasP_at hr p).2 hp), if_neg (fun (e : k' = k' ∧ f' = f ∧ p ∈ r.ps) => hf (e.2.1 ▸ hf'))]
      · rw [h.none k' p f' (fun e => hf ((hasF_at hr f').1 e.1)), if_pos ⟨rfl, rfl, hp⟩]
    · rw [if_neg e] at hf' hp
      rw [h.one k' p f' hf' hp, if_neg (fun e' => e e'.1)]
  · rw [List.count_append, count_map_p k f _ hnP]
    rw [hasF_set hr, hasP_set hr] at hn
    by_cases e : k' = k
    · subst e
      rw [if_pos rfl, if_pos rfl] at hn
      simp at hn
      rw [h.none k' p f' (fun e => (hn (.inl ((hasF_at hr f').1 e.1))) ((hasP_at hr p).1 e.2)), if_neg (fun (e : k' = k' ∧ f' = f ∧ p ∈ r.ps) => hn (.inr e.2.1) e.2.2)]
    · rw [if_neg e, if_neg e] at hn
      rw [h.none k' p f' hn, if_neg (fun e' => e e'.1)]
  · rw [List.length_append, List.length_map, h.len, total_set hr (d := r.ps.length)]
    simp [Nat.add_mul]
/-- What the nodes have when these things have come. -/
structure From (n : Nat) (l : List Nd) (xs : List Thing) : Prop where
  len : l.length = n
  fr : ∀ k, k < n → ∀ f, hasF l k f ↔ Thing.push k f ∈ xs
  po : ∀ k, k < n → ∀ p, hasP l k p ↔ Thing.pop k p ∈ xs
theorem From.popNew {n : Nat} {l : List Nd} {xs : List Thing} (h : From n l xs) {k : Nat} {r : Nd} (hr : l[k]? = some r) (p : Int) : From n (l.set k ⟨r.mark, r.place, r.fs, r.ps ++ [p]⟩) (xs ++ [.pop k p]) := by
  refine ⟨by simp [h.len], fun j hj f => ?_, fun j hj q => ?_⟩
  · rw [hasF_set hr]
    by_cases e : j = k
    · subst e; rw [if_pos rfl, ← hasF_at hr, h.fr j hj]; simp
    · rw [if_neg e, h.fr j hj]; simp
  · rw [hasP_set hr]
    by_cases e : j = k
    · subst e; rw [if_pos rfl]; simp only [List.mem_append, List.mem_singleton]; rw [← hasP_at hr, h.po j hj]; simp
    · rw [if_neg e, h.po j hj]; simp [e]
theorem From.popOld {n : Nat} {l : List Nd} {xs : List Thing} (h : From n l xs) {k : Nat} {r : Nd} (hr : l[k]? = some r) {p : Int} (hp : p ∈ r.ps) : From n l (xs ++ [.pop k p]) := by
  have hk : k < n := by rw [← h.len]; exact (List.getElem?_eq_some_iff.1 hr).1
  refine ⟨h.len, fun j hj f => by rw [h.fr j hj]; simp, fun j hj q => ?_⟩
  rw [h.po j hj]
  simp only [List.mem_append, List.mem_singleton]
  refine ⟨.inl, fun e => e.elim id fun e => ?_⟩
  cases e
  exact (h.po k hk p).1 ⟨r, hr, hp⟩
theorem From.pushNew {n : Nat} {l : List Nd} {xs : List Thing} (h : From n l xs) {k : Nat} {r : Nd} (hr : l[k]? = some r) (f : Int × Int) : From n (l.set k ⟨r.mark, r.place, r.fs ++ [f], r.ps⟩) (xs ++ [.push k f]) := by
  refine ⟨by simp [h.len], fun j hj g => ?_, fun j hj q => ?_⟩
  · rw [hasF_set hr]
    by_cases e : j = k
    · subst e; rw [if_pos rfl]; simp only [List.mem_append, List.mem_singleton]; rw [← hasF_at hr, h.fr j hj]; simp
    · rw [if_neg e, h.fr j hj]; simp [e]
  · rw [hasP_set hr]
    by_cases e : j = k
    · subst e; rw [if_pos rfl, ← hasP_at hr, h.po j hj]; simp
    · rw [if_neg e, h.po j hj]; simp
theorem From.pushOld {n : Nat} {l : List Nd} {xs : List Thing} (h : From n l xs) {k : Nat} {r : Nd} (hr : l[k]? = some r) {f : Int × Int} (hf : f ∈ r.fs) : From n l (xs ++ [.push k f]) := by
  have hk : k < n := by rw [← h.len]; exact (List.getElem?_eq_some_iff.1 hr).1
  refine ⟨h.len, fun j hj g => ?_, fun j hj q => by rw [h.po j hj]; simp⟩
  rw [h.fr j hj]
  simp only [List.mem_append, List.mem_singleton]
  refine ⟨.inl, fun e => e.elim id fun e => ?_⟩
  cases e
  exact (h.fr k hk f).1 ⟨r, hr, hf⟩
theorem nodup_le {α : Type} [BEq α] [LawfulBEq α] : ∀ (l m : List α), l.Nodup → (∀ x ∈ l, x ∈ m) → l.length ≤ m.length
  | [], _, _, _ => Nat.zero_le _
  | x :: l, m, h, hs => by
    have hx := hs x (by simp)
    have := nodup_le l (m.erase x) (List.nodup_cons.1 h).2 fun y hy => by
      have hne : y ≠ x := fun e => (List.nodup_cons.1 h).1 (e ▸ hy)
      exact (List.mem_erase_of_ne hne).2 (hs y (by simp [hy]))
    rw [List.length_erase_of_mem hx] at this
    have := List.length_pos_of_mem hx
    simp only [List.length_cons]
    omega
theorem same_len {n : Nat} {l m : List Nd} {xs ys : List Thing} {a b : List Mt} (hl : From n l xs) (hm : From n m ys) (hxy : ∀ t, t ∈ xs ↔ t ∈ ys) (ha : Inv l a) (hb : Inv m b) {k : Nat} {r s : Nd} (hr : l[k]? = some r) (hs : m[k]? = some s) :
    r.fs.length = s.fs.length ∧ r.ps.length = s.ps.length ∧ (∀ f, f ∈ r.fs → f ∈ s.fs) ∧ (∀ p, p ∈ r.ps → p ∈ s.ps) := by
  have hk : k < n := by rw [← hl.len]; exact (List.getElem?_eq_some_iff.1 hr).1
  have h1 : ∀ f, f ∈ r.fs ↔ f ∈ s.fs := fun f => by rw [← hasF_at hr, ← hasF_at hs, hl.fr k hk, hm.fr k hk, hxy]
  have h2 : ∀ p, p ∈ r.ps ↔ p ∈ s.ps := fun p => by rw [← hasP_at hr, ← hasP_at hs, hl.po k hk, hm.po k hk, hxy]
  exact ⟨Nat.le_antisymm (nodup_le _ _ (ha.nodF k r hr) fun f hf => (h1 f).1 hf) (nodup_le _ _ (hb.nodF k s hs) fun f hf => (h1 f).2 hf),
    Nat.le_antisymm (nodup_le _ _ (ha.nodP k r hr) fun f hf => (h2 f).1 hf) (nodup_le _ _ (hb.nodP k s hs) fun f hf => (h2 f).2 hf), fun f hf => (h1 f).1 hf, fun p hp => (h2 p).1 hp⟩
theorem total_eq : ∀ (l m : List Nd), l.length = m.length → (∀ (k : Nat) (r s : Nd), l[k]? = some r → m[k]? = some s → r.fs.length = s.fs.length ∧ r.ps.length = s.ps.length) → total l = total m
  | [], [], _, _ => rfl
  | [], y :: m, h, _ => by simp at h
  | x :: l, [], h, _ => by simp at h
  | x :: l, y :: m, h, hk => by
    have ih := total_eq l m (by simpa using h) fun k r s hr hs => hk (k + 1) r s (by simpa using hr) (by simpa using hs)
    have h0 := hk 0 x y rfl rfl
    unfold total at ih ⊢
    simp only [List.map_cons, List.sum_cons, h0.1, h0.2, ih]
/-- The nodes made first. -/
def mk (n : Nat) : List Nd := (List.range n).map fun (i : Nat) => ⟨(i : Int), -(i : Int), [], []⟩
theorem mk_length (n : Nat) : (mk n).length = n := by simp [mk]
theorem mk_succ (n : Nat) : mk (n + 1) = mk n ++ [⟨(n : Int), -(n : Int), [], []⟩] := by simp [mk, List.range_succ]
theorem mk_get {n k : Nat} {r : Nd} (h : (mk n)[k]? = some r) : r = ⟨(k : Int), -(k : Int), [], []⟩ := by
  unfold mk at h
  rw [List.getElem?_map] at h
  obtain ⟨i, hi, rfl⟩ := Option.map_eq_some_iff.1 h
  have := List.getElem?_range (n := n) (i := k)
  by_cases hk : k < n
  · rw [List.getElem?_range hk] at hi; cases hi; rfl
  · rw [List.getElem?_eq_none (by simp; omega)] at hi; cases hi
theorem mk_look (n : Nat) : look (mk n) (n : Int) (-(n : Int)) = none := by
  unfold look
  rw [List.findIdx?_eq_none_iff]
  intro x hx
  obtain ⟨k, hk⟩ := List.getElem?_of_mem hx
  have := mk_get hk
  have hlt : k < n := by have := (List.getElem?_eq_some_iff.1 hk).1; rwa [mk_length] at this
  subst this
  have : ((k : Int) == (n : Int)) = false := by rw [beq_eq_false_iff_ne]; omega
  simp [this]
theorem mk_inv (n : Nat) : Inv (mk n) [] := by
  refine ⟨fun k r h => by rw [mk_get h]; simp, fun k r h => by rw [mk_get h]; simp, fun k p f hf hp => ?_, fun _ _ _ _ => rfl, ?_⟩
  · obtain ⟨r, hr, hm⟩ := hf; rw [mk_get hr] at hm; simp at hm
  · induction n with
    | zero => rfl
    | succ n ih => rw [mk_succ]; simp [total] at ih ⊢; exact ih
theorem mk_from (n : Nat) : From n (mk n) [] := by
  refine ⟨mk_length n, fun k _ f => ⟨fun ⟨r, hr, hm⟩ => by rw [mk_get hr] at hm; simp at hm, fun h => by simp at h⟩, fun k _ f => ⟨fun ⟨r, hr, hm⟩ => by rw [mk_get hr] at hm; simp at hm, fun h => by simp at h⟩⟩
def mcells (l : List Mt) : List Value := l.flatMap fun m => [.int .i64 (m.1 : Int), .int .i64 m.2.1, .int .i64 m.2.2.1, .int .i64 m.2.2.2]
theorem mcells_app (l : List Mt) (m : Mt) : mcells (l ++ [m]) = mcells l ++ [.int .i64 (m.1 : Int), .int .i64 m.2.1, .int .i64 m.2.2.1, .int .i64 m.2.2.2] := by simp [mcells]
theorem mcells_length (l : List Mt) : (mcells l).length = l.length * 4 := by
  induction l with
  | nil => rfl
  | cons r L ih => simp only [mcells, List.flatMap_cons, List.length_append, List.length_cons, List.length_nil] at ih ⊢; omega
theorem mcells_get {l : List Mt} {k : Nat} {m : Mt} (h : l[k]? = some m) : (mcells l)[k * 4]? = some (.int .i64 (m.1 : Int)) ∧ (mcells l)[k * 4 + 1]? = some (.int .i64 m.2.1) ∧ (mcells l)[k * 4 + 2]? = some (.int .i64 m.2.2.1) ∧ (mcells l)[k * 4 + 3]? = some (.int .i64 m.2.2.2) := by
  induction l generalizing k with
  | nil => simp at h
  | cons x L ih =>
    have e : mcells (x :: L) = .int .i64 (x.1 : Int) :: .int .i64 x.2.1 :: .int .i64 x.2.2.1 :: .int .i64 x.2.2.2 :: mcells L := rfl
    cases k with
    | zero => simp at h; subst h; rw [e]; exact ⟨rfl, rfl, rfl, rfl⟩
    | succ i =>
      have := ih (by simpa using h)
      rw [e, show (i + 1) * 4 = i * 4 + 1 + 1 + 1 + 1 by omega, show i * 4 + 1 + 1 + 1 + 1 + 1 = (i * 4 + 1) + 1 + 1 + 1 + 1 by omega, show i * 4 + 1 + 1 + 1 + 1 + 2 = (i * 4 + 2) + 1 + 1 + 1 + 1 by omega, show i * 4 + 1 + 1 + 1 + 1 + 3 = (i * 4 + 3) + 1 + 1 + 1 + 1 by omega]
      simpa only [List.getElem?_cons_succ] using this
end Go.Proofs.Ythpkbeooplpinaa
