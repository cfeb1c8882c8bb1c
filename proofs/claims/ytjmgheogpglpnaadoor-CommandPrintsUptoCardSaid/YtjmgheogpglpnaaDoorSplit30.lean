/-
  A text's words between its blanks; what the program's reader and the document's say of them is the same.
-/
import Derived.Test.YtjmgheogpglpnaaDoorCmd30
namespace Go.Proofs.YtjmgheogpglpnaaDoor
set_option linter.unusedVariables false
set_option linter.unusedSimpArgs false
theorem occ1 (l : Tx) (i : Nat) : Lib.occAt l [32] i = decide (l[i]? = some 32) := by
  unfold Lib.occAt
  cases h : l.drop i with
  | nil =>
    have : l[i]? = none := by rw [List.getElem?_eq_none_iff]; have := congrArg List.length h; simp at this; omega
    simp [this]
  | cons a t =>
    have : l[i]? = some a := by have := congrArg (·[0]?) h; simpa using this
    rw [this]
    by_cases ha : a = 32
    · simp [ha, List.isPrefixOf]
    · have : (32 : UInt8) ≠ a := fun e => ha e.symm
      simp [ha, List.isPrefixOf, this]
theorem cutT_yes {a b : Tx} (h : (32 : UInt8) ∉ a) : cutT (a ++ 32 :: b) = (a, b, true) := by
  have hi : Lib.index (a ++ 32 :: b) [32] = (a.length : Int) := by
    refine Lib.index_first (by simp) ?_ ?_
    · rw [occ1]; simp
    · intro j hj
      rw [occ1, List.getElem?_append_left hj]
      simp only [decide_eq_false_iff_not]
      intro he
      exact h (List.mem_of_getElem? he)
  unfold cutT Lib.cut
  rw [hi, if_pos (by omega)]
  simp
theorem cutT_no {l : Tx} (h : (32 : UInt8) ∉ l) : cutT l = (l, [], false) := by
  rcases Lib.index_spec l [32] with ⟨h1, _⟩ | ⟨i, h1, h2, h3, _⟩
  · unfold cutT Lib.cut
    rw [h1, if_neg (by decide)]
  · rw [occ1] at h3
    exact absurd (List.mem_of_getElem? (of_decide_eq_true h3)) h
theorem blank_cases (l : Tx) : (32 : UInt8) ∉ l ∨ ∃ a b, l = a ++ 32 :: b ∧ (32 : UInt8) ∉ a := by
  induction l with
  | nil => exact .inl (by simp)
  | cons c l ih =>
    by_cases hc : c = 32
    · exact .inr ⟨[], l, by rw [hc]; rfl, by simp⟩
    · rcases ih with h | ⟨a, b, rfl, h⟩
      · exact .inl (by simp [h]; exact fun e => hc e.symm)
      · exact .inr ⟨c :: a, b, rfl, by simp [h]; exact fun e => hc e.symm⟩
/-- A text's words. -/
def splitW : Tx → List Tx
  | [] => [[]]
  | c :: l => if c = 32 then [] :: splitW l else match splitW l with
    | w :: ws => (c :: w) :: ws
    | [] => [[c]]
theorem splitW_cons (c : UInt8) (l : Tx) : splitW (c :: l) = if c = 32 then [] :: splitW l else match splitW l with
    | w :: ws => (c :: w) :: ws
    | [] => [[c]] := rfl
theorem splitW_no {l : Tx} (h : (32 : UInt8) ∉ l) : splitW l = [l] := by
  induction l with
  | nil => rfl
  | cons c l ih =>
    have h1 : c ≠ 32 := fun e => h (by rw [e]; simp)
    have h2 : (32 : UInt8) ∉ l := fun e => h (by simp [e])
    unfold splitW
    rw [if_neg h1, ih h2]
theorem splitW_yes {a b : Tx} (h : (32 : UInt8) ∉ a) : splitW (a ++ 32 :: b) = a :: splitW b := by
  induction a with
  | nil => simp [splitW]
  | cons c l ih =>
    have h1 : c ≠ 32 := fun e => h (by rw [e]; simp)
    have h2 : (32 : UInt8) ∉ l := fun e => h (by simp [e])
    rw [List.cons_append, splitW_cons, if_neg h1, ih h2]
theorem splitW_ne (l : Tx) : splitW l ≠ [] := by
  rcases blank_cases l with h | ⟨a, b, rfl, h⟩
  · rw [splitW_no h]; simp
  · rw [splitW_yes h]; simp
theorem splitW_clean (l : Tx) : ∀ w ∈ splitW l, (32 : UInt8) ∉ w := by
  induction l with
  | nil => simp [splitW]
  | cons c l ih =>
    unfold splitW
    split
    · intro w hw
      rcases List.mem_cons.1 hw with rfl | hw
      · simp
      · exact ih w hw
    · rename_i hc
      split
      · rename_i x ws he
        intro w hw
        rcases List.mem_cons.1 hw with rfl | hw
        · have := ih x (by rw [he]; simp)
          simp only [List.mem_cons, not_or]
          exact ⟨fun e => hc e.symm, this⟩
        · exact ih w (by rw [he]; simp [hw])
      · rename_i he
        exact absurd he (splitW_ne l)
/-- Words in a row with a blank between each two. -/
def joinW : List Tx → Tx
  | [] => []
  | [x] => x
  | x :: y :: r => x ++ 32 :: joinW (y :: r)
theorem split_join : ∀ {ws : List Tx}, ws ≠ [] → (∀ w ∈ ws, (32 : UInt8) ∉ w) → splitW (joinW ws) = ws
  | [], h, _ => absurd rfl h
  | [x], _, h => by show splitW x = [x]; exact splitW_no (h x (by simp))
  | x :: y :: r, _, h => by
    show splitW (x ++ 32 :: joinW (y :: r)) = _
    rw [splitW_yes (h x (by simp)), split_join (by simp) (fun w hw => h w (by simp [hw]))]
theorem join_split (l : Tx) : joinW (splitW l) = l := by
  induction l with
  | nil => rfl
  | cons c l ih =>
    unfold splitW
    split
    · rename_i hc
      cases hs : splitW l with
      | nil => exact absurd hs (splitW_ne l)
      | cons w ws => rw [hs] at ih; show [] ++ 32 :: joinW (w :: ws) = _; rw [ih, hc]; rfl
    · split
      · rename_i w ws he
        rw [he] at ih
        cases ws with
        | nil => have ih' : w = l := ih; show c :: w = _; rw [ih']
        | cons y r => have ih' : w ++ 32 :: joinW (y :: r) = l := ih; show (c :: w) ++ 32 :: joinW (y :: r) = _; rw [← ih']; rfl
      · rename_i he; exact absurd he (splitW_ne l)
/-- The words that are left. -/
def left (s : St) : List Tx := if s.2 = true then splitW s.1 else []
theorem left_cut (l : Tx) : splitW l = (cutT l).1 :: left ((cutT l).2.1, (cutT l).2.2) := by
  rcases blank_cases l with h | ⟨a, b, rfl, h⟩
  · rw [splitW_no h, cutT_no h]; rfl
  · rw [splitW_yes h, cutT_yes h]; rfl
theorem left_nil {s : St} : left s = [] ↔ s.2 = false := by
  unfold left
  cases h : s.2
  · simp
  · simp [splitW_ne]
theorem nameF_nil {s : St} (h : left s = []) : nameF s = none := by
  unfold nameF
  rw [left_nil.1 h]
  rfl
theorem nameF_cons {s : St} {x : Tx} {R : List Tx} (h : left s = x :: R) : (x = [] → nameF s = none) ∧ (x ≠ [] → ∃ s', nameF s = some (x, s') ∧ left s' = R) := by
  have h2 : s.2 = true := by
    cases h' : s.2
    · rw [left_nil.2 h'] at h; cases h
    · rfl
  have h1 : splitW s.1 = x :: R := by unfold left at h; rw [if_pos h2] at h; exact h
  rw [left_cut] at h1
  obtain ⟨e1, e2⟩ := List.cons.inj h1
  unfold nameF
  rw [if_pos h2, e1]
  exact ⟨fun e => by rw [if_pos e], fun e => ⟨_, by rw [if_neg e], e2⟩⟩
/-! ### The document's reader -/
/-- What a verb's words are: h an evaluator, n a name, k a number. -/
inductive Lt
  | n | k | h
  deriving DecidableEq
def formV (v : Nat) : List Lt := if v = 3 then [.n] else if v = 4 ∨ v = 6 then [.n, .n, .n] else if v = 5 then [.h, .n] else if v = 7 then [.n, .n, .n, .k, .k] else []
def stepL (t : Lt) (x : Tx) (c : Cm) : Option Cm :=
  if x = [] then none else match t with
  | .n => some { c with names := c.names ++ [x] }
  | .k => match numT x with
    | none => none
    | some n => some { c with nums := c.nums ++ [n] }
  | .h => match howOf x with
    | none => none
    | some h => some { c with how := h }
def runL : List Lt → List Tx → Cm → Option Cm
  | [], [], c => some c
  | t :: ts, x :: xs, c => match stepL t x c with
    | none => none
    | some c' => runL ts xs c'
  | _, _, _ => none
/-- The document's reading of a line. -/
def refV (v : Nat) (ws : List Tx) (text : Tx) : Nat ⊕ Cm :=
  if v = 0 then .inl 400
  else if v ≤ 2 then (if ws = [] then .inl 401 else .inr { cm0 with v := v, text := text })
  else match runL (formV v) ws { cm0 with v := v } with
    | none => .inl 401
    | some c => .inr c
def refF (l : Tx) : Nat ⊕ Cm := refV (verbOf ((splitW l).headD [])) (splitW l).tail (l.drop (((splitW l).headD []).length + 1))
theorem verbOf_le (x : Tx) : verbOf x ≤ 10 := by
  unfold verbOf
  split
  · rename_i h
    have := List.idxOf_lt_length_of_mem h
    have : verbs.length = 10 := rfl
    omega
  · omega
/-- Names read one after the other, then what comes behind them. -/
theorem names_run : ∀ (k : Nat) (ts : List Lt) (c : Cm) (s : St), runL (List.replicate k .n ++ ts) (left s) c = match namesF k c.names s with
    | none => none
    | some (l, s') => runL ts (left s') { c with names := l }
  | 0, ts, c, s => rfl
  | k + 1, ts, c, s => by
    show runL (.n :: (List.replicate k .n ++ ts)) (left s) c = _
    cases hl : left s with
    | nil => simp only [namesF, nameF_nil hl]; rfl
    | cons x R =>
      obtain ⟨h1, h2⟩ := nameF_cons hl
      by_cases hx : x = []
      · simp only [namesF, h1 hx, runL, stepL, hx, if_true]
      · obtain ⟨s', e, hs⟩ := h2 hx
        simp only [namesF, e, runL, stepL, hx, if_false]
        have := names_run k ts { c with names := c.names ++ [x] } s'
        rw [hs] at this
        exact this
theorem num_run (ts : List Lt) (c : Cm) (s : St) : runL (.k :: ts) (left s) c = match numberF s with
    | none => none
    | some (n, s') => runL ts (left s') { c with nums := c.nums ++ [n] } := by
  cases hl : left s with
  | nil => simp only [numberF, nameF_nil hl]; rfl
  | cons x R =>
    obtain ⟨h1, h2⟩ := nameF_cons hl
    by_cases hx : x = []
    · simp only [numberF, h1 hx, runL, stepL, hx, if_true]
    · obtain ⟨s', e, hs⟩ := h2 hx
      simp only [numberF, e, runL, stepL, hx, if_false]
      cases numT x with
      | none => rfl
      | some n => dsimp only; rw [hs]
theorem how_run (ts : List Lt) (c : Cm) (s : St) : runL (.h :: ts) (left s) c = match nameF s with
    | none => none
    | some (x, s') => match howOf x with
      | none => none
      | some h => runL ts (left s') { c with how := h } := by
  cases hl : left s with
  | nil => simp only [nameF_nil hl]; rfl
  | cons x R =>
    obtain ⟨h1, h2⟩ := nameF_cons hl
    by_cases hx : x = []
    · simp only [h1 hx, runL, stepL, hx, if_true]
    · obtain ⟨s', e, hs⟩ := h2 hx
      simp only [e, runL, stepL, hx, if_false]
      cases howOf x with
      | none => rfl
      | some n => dsimp only; rw [hs]
theorem end_run (c : Cm) (s : St) : runL [] (left s) c = if s.2 = true then none else some c := by
  cases h : s.2
  · rw [left_nil.2 h]; rfl
  · cases hl : left s with
    | nil => rw [left_nil.1 hl] at h; cases h
    | cons x R => rfl
theorem rest_cut (l : Tx) (h : (cutT l).2.2 = true) : l.drop ((cutT l).1.length + 1) = (cutT l).2.1 := by
  rcases blank_cases l with h1 | ⟨a, b, rfl, h1⟩
  · rw [cutT_no h1] at h; cases h
  · rw [cutT_yes h1]
    rw [show a ++ 32 :: b = (a ++ [32]) ++ b by simp]
    exact List.drop_left' (by simp)
theorem parseV_ref (v : Nat) (hv : v ≤ 10) (s : St) (text : Tx) (hr : s.2 = true → text = s.1) : parseV v s = refV v (left s) text := by
  unfold parseV refV
  by_cases h0 : v = 0
  · rw [if_pos h0, if_pos h0]
  rw [if_neg h0, if_neg h0]
  by_cases h2 : v ≤ 2
  · rw [if_pos h2]
    unfold readF
    rw [if_pos (by omega)]
    cases hm : s.2
    · rw [left_nil.2 hm]; rfl
    · have : left s ≠ [] := fun e => by rw [left_nil.1 e] at hm; cases hm
      rw [if_neg this, hr hm]; rfl
  · rw [if_neg h2]
    unfold readF
    rw [if_neg (by omega)]
    by_cases h5 : v = 5
    · subst h5
      rw [if_pos rfl]
      show _ = (match runL ([.h] ++ [.n]) (left s) _ with | none => _ | some c => _)
      rw [show ([Lt.h] ++ [Lt.n]) = .h :: (List.replicate 1 .n ++ []) from rfl, how_run]
      cases nameF s with
      | none => rfl
      | some p =>
        obtain ⟨x, s1⟩ := p
        dsimp only
        cases howOf x with
        | none => rfl
        | some h =>
          dsimp only
          rw [names_run]
          dsimp only [cm0]
          cases namesF 1 [] s1 with
          | none => rfl
          | some q =>
            obtain ⟨l1, s2⟩ := q
            dsimp only
            rw [end_run]
            cases s2.2 <;> rfl
    · rw [if_neg h5]
      by_cases h7 : v = 7
      · subst h7
        rw [if_pos rfl]
        show _ = (match runL (List.replicate 3 .n ++ [.k, .k]) (left s) _ with | none => _ | some c => _)
        rw [names_run]
        dsimp only [cm0]
        cases namesF 3 [] s with
        | none => rfl
        | some q =>
          obtain ⟨l1, s1⟩ := q
          dsimp only
          rw [num_run]
          cases numberF s1 with
          | none => rfl
          | some q2 =>
            obtain ⟨a, s2⟩ := q2
            dsimp only
            rw [num_run]
            cases numberF s2 with
            | none => rfl
            | some q3 =>
              obtain ⟨b, s3⟩ := q3
              dsimp only
              rw [end_run]
              cases s3.2 <;> rfl
      · rw [if_neg h7]
        have hf : formV v = List.replicate (if v = 3 then 1 else if v = 4 ∨ v = 6 then 3 else 0) .n ++ [] := by
          have : v = 3 ∨ v = 4 ∨ v = 6 ∨ v = 8 ∨ v = 9 ∨ v = 10 := by omega
          rcases this with rfl | rfl | rfl | rfl | rfl | rfl <;> rfl
        rw [hf, names_run]
        dsimp only [cm0]
        cases namesF (if v = 3 then 1 else if v = 4 ∨ v = 6 then 3 else 0) [] s with
        | none => rfl
        | some q =>
          obtain ⟨l1, s1⟩ := q
          dsimp only
          rw [end_run]
          cases s1.2 <;> rfl
theorem parse_ref (l : Tx) : parseF l = refF l := by
  unfold parseF refF
  rw [left_cut l]
  simp only [List.headD_cons, List.tail_cons]
  exact parseV_ref _ (verbOf_le _) _ _ (rest_cut l)
end Go.Proofs.YtjmgheogpglpnaaDoor
