/-
  The document's line of a command, as a pure function; it agrees with reading again what is written.
-/
import Derived.Test.YtjmgheogpglpnaaDoorCmdW30
namespace Go.Proofs.YtjmgheogpglpnaaDoor
open Go.RowKit
set_option linter.unusedVariables false
set_option linter.unusedSimpArgs false
/-- What the document's loop has: the line so far, how many names, how many numbers, the way. -/
structure LS where
  s : Tx
  a : Nat
  b : Nat
  h : Int
def numW (c : CI) (b : Nat) : Tx := match c.nums[b]? with
  | some n => if 0 ≤ n ∧ n ≤ 999999999 then Lib.itoa n else []
  | none => []
def wordL (t : Lt) (c : CI) (x : LS) : Tx := match t with
  | .n => c.names[x.a]?.getD []
  | .k => numW c x.b
  | .h => hwT c.how
def nextL (t : Lt) (c : CI) (x : LS) : LS := match t with
  | .n => { x with s := x.s ++ 32 :: wordL .n c x, a := x.a + 1 }
  | .k => { x with s := x.s ++ 32 :: wordL .k c x, b := x.b + 1 }
  | .h => { x with s := x.s ++ 32 :: wordL .h c x, h := c.how }
def okW (x : Tx) : Prop := x ≠ [] ∧ (32 : UInt8) ∉ x
instance (x : Tx) : Decidable (okW x) := by unfold okW; infer_instance
def lineL : List Lt → CI → LS → Option LS
  | [], _, x => some x
  | t :: ts, c, x => if okW (wordL t c x) then lineL ts c (nextL t c x) else none
theorem lineL_app (c : CI) : ∀ (ts us : List Lt) (x : LS), lineL (ts ++ us) c x = (lineL ts c x).bind (lineL us c)
  | [], us, x => rfl
  | t :: ts, us, x => by
    show (if _ then _ else _) = Option.bind (if _ then _ else _) _
    split
    · exact lineL_app c ts us _
    · rfl
def fitL (c : CI) (x : LS) : Bool := decide (c.text = []) && decide (x.a = c.names.length) && decide (x.b = c.nums.length) && decide (x.h = c.how)
def lineC (c : CI) : Tx × Bool :=
  if 1 ≤ c.v ∧ c.v ≤ 10 then
    if c.v ≤ 2 then (wordV c.v.toNat ++ 32 :: c.text, decide (c.how = 0) && decide (c.names.length = 0) && decide (c.nums.length = 0))
    else match lineL (formV c.v.toNat) c ⟨wordV c.v.toNat, 0, 0, 0⟩ with
      | none => ([], false)
      | some x => (x.s, fitL c x)
  else ([], false)
theorem numT_of (n : Nat) (h : n ≤ 999999999) : numT (Lib.itoa (n : Int)) = some n := by
  have e : Lib.itoa (n : Int) = Lib.decDigits n := by simp [Lib.itoa]
  rw [numT_numR, e, numR_of, if_pos (by omega)]
theorem howOf_hw {h : Int} (hx : hwT h ≠ []) : howOf (hwT h) = some h.toNat ∧ 0 ≤ h := by
  unfold hwT at hx ⊢
  by_cases h1 : h = 1
  · subst h1; exact ⟨rfl, by decide⟩
  rw [if_neg h1] at hx ⊢
  by_cases h2 : h = 2
  · subst h2; exact ⟨rfl, by decide⟩
  rw [if_neg h2] at hx ⊢
  by_cases h3 : h = 3
  · subst h3; exact ⟨rfl, by decide⟩
  rw [if_neg h3] at hx
  exact absurd rfl hx
theorem joinW_snoc (x : Tx) : ∀ (l : List Tx), l ≠ [] → joinW (l ++ [x]) = joinW l ++ 32 :: x
  | [a], _ => by simp [joinW]
  | a :: b :: r, _ => by
    have := joinW_snoc x (b :: r) (by simp)
    show a ++ 32 :: joinW (b :: (r ++ [x])) = (a ++ 32 :: joinW (b :: r)) ++ 32 :: x
    rw [show b :: (r ++ [x]) = (b :: r) ++ [x] from rfl, this]
    simp
/-- What the loop has said, the reader reads. -/
theorem line_run (c : CI) : ∀ (ts : List Lt) (x y : LS) (ws : List Tx) (d : Cm), lineL ts c x = some y → ws ≠ [] → x.s = joinW ws → d.names = c.names.take x.a → x.a ≤ c.names.length → (d.nums.map fun n : Nat => (n : Int)) = c.nums.take x.b → x.b ≤ c.nums.length → (d.how : Int) = x.h →
    ∃ xs e, runL ts xs d = some e ∧ (∀ w ∈ xs, okW w) ∧ y.s = joinW (ws ++ xs) ∧ e.names = c.names.take y.a ∧ y.a ≤ c.names.length ∧ (e.nums.map fun n : Nat => (n : Int)) = c.nums.take y.b ∧ y.b ≤ c.nums.length ∧ (e.how : Int) = y.h ∧ e.v = d.v ∧ e.text = d.text
  | [], x, y, ws, d, h, h0, h1, h2, h3, h4, h5, h6 => by
    simp only [lineL, Option.some.injEq] at h
    subst h
    exact ⟨[], d, rfl, (fun w hw => by cases hw), by rw [List.append_nil]; exact h1, h2, h3, h4, h5, h6, rfl, rfl⟩
  | t :: ts, x, y, ws, d, h, h0, h1, h2, h3, h4, h5, h6 => by
    unfold lineL at h
    split at h
    rotate_left
    · cases h
    rename_i hok
    have hne : wordL t c x ≠ [] := hok.1
    have step : ∃ d', stepL t (wordL t c x) d = some d' ∧ (nextL t c x).s = joinW (ws ++ [wordL t c x]) ∧ d'.names = c.names.take (nextL t c x).a ∧ (nextL t c x).a ≤ c.names.length ∧ (d'.nums.map fun n : Nat => (n : Int)) = c.nums.take (nextL t c x).b ∧ (nextL t c x).b ≤ c.nums.length ∧ (d'.how : Int) = (nextL t c x).h ∧ d'.v = d.v ∧ d'.text = d.text := by
      unfold stepL
      rw [if_neg hne]
      cases t with
      | n =>
        have hw : wordL .n c x = c.names[x.a]?.getD [] := rfl
        cases hg : c.names[x.a]? with
        | none => rw [hw, hg] at hne; exact absurd rfl hne
        | some u =>
          have hlt := (List.getElem?_eq_some_iff.1 hg).1
          have hu : wordL .n c x = u := by rw [hw, hg]; rfl
          rw [hu]
          refine ⟨_, rfl, ?_, ?_, ?_, h4, h5, h6, rfl, rfl⟩
          · show x.s ++ 32 :: wordL .n c x = _
            rw [hu, h1, joinW_snoc _ _ h0]
          · show d.names ++ [u] = c.names.take (x.a + 1)
            rw [List.take_add_one, hg, h2]; rfl
          · show x.a + 1 ≤ _; omega
      | k =>
        have hw : wordL .k c x = numW c x.b := rfl
        cases hg : c.nums[x.b]? with
        | none => rw [hw] at hne; unfold numW at hne; rw [hg] at hne; exact absurd rfl hne
        | some u =>
          have hlt := (List.getElem?_eq_some_iff.1 hg).1
          have hr : 0 ≤ u ∧ u ≤ 999999999 := by
            rw [hw] at hne; unfold numW at hne; rw [hg] at hne
            dsimp only at hne
            by_cases hr : 0 ≤ u ∧ u ≤ 999999999
            · exact hr
            · rw [if_neg hr] at hne; exact absurd rfl hne
          obtain ⟨m, rfl⟩ : ∃ m : Nat, u = (m : Int) := ⟨u.toNat, by omega⟩
          have hu : wordL .k c x = Lib.itoa (m : Int) := by rw [hw]; unfold numW; rw [hg]; exact if_pos hr
          rw [hu, numT_of m (by omega)]
          refine ⟨_, rfl, ?_, h2, h3, ?_, ?_, h6, rfl, rfl⟩
          · show x.s ++ 32 :: wordL .k c x = _
            rw [hu, h1, joinW_snoc _ _ h0]
          · show ((d.nums ++ [m]).map fun n : Nat => (n : Int)) = c.nums.take (x.b + 1)
            rw [List.take_add_one, hg, List.map_append, h4]; rfl
          · show x.b + 1 ≤ _; omega
      | h =>
        have hw : wordL .h c x = hwT c.how := rfl
        rw [hw] at hne ⊢
        obtain ⟨e1, e2⟩ := howOf_hw hne
        rw [e1]
        refine ⟨_, rfl, ?_, h2, h3, h4, h5, ?_, rfl, rfl⟩
        · show x.s ++ 32 :: wordL .h c x = _
          rw [hw, h1, joinW_snoc _ _ h0]
        · show ((c.how.toNat : Nat) : Int) = c.how
          omega
    obtain ⟨d', s0, s1, s2, s3, s4, s5, s6, s7, s8⟩ := step
    obtain ⟨xs, e, r0, r1, r2, r3, r4, r5, r6, r7, r8, r9⟩ := line_run c ts _ y (ws ++ [wordL t c x]) d' h (by simp) s1 s2 s3 s4 s5 s6
    refine ⟨wordL t c x :: xs, e, ?_, ?_, ?_, r3, r4, r5, r6, r7, r8.trans s7, r9.trans s8⟩
    · show (match stepL t (wordL t c x) d with | none => none | some c' => runL ts xs c') = _
      rw [s0]; exact r0
    · intro w hw
      rcases List.mem_cons.1 hw with rfl | hw
      · exact hok
      · exact r1 w hw
    · rw [r2, List.append_assoc]; rfl
/-- What is read of clean words, the loop says. -/
theorem run_line (c : CI) : ∀ (ts : List Lt) (xs : List Tx) (d e : Cm) (x : LS), .h ∉ ts → runL ts xs d = some e → (∀ w ∈ xs, (32 : UInt8) ∉ w) → e.names <+: c.names → (e.nums.map fun n : Nat => (n : Int)) <+: c.nums → (∀ n ∈ e.nums, n < 1000000000) → x.a = d.names.length → x.b = d.nums.length →
    ∃ y, lineL ts c x = some y ∧ y.a = e.names.length ∧ y.b = e.nums.length ∧ y.h = x.h ∧ e.how = d.how ∧ e.v = d.v ∧ e.text = d.text ∧ d.names <+: e.names ∧ d.nums <+: e.nums
  | [], [], d, e, x, _, h, _, _, _, _, ha, hb => by
    simp only [runL, Option.some.injEq] at h
    subst h
    exact ⟨x, rfl, ha, hb, rfl, rfl, rfl, rfl, List.prefix_rfl, List.prefix_rfl⟩
  | [], _ :: _, _, _, _, _, h, _, _, _, _, _, _ => by simp [runL] at h
  | _ :: _, [], _, _, _, _, h, _, _, _, _, _, _ => by simp [runL] at h
  | t :: ts, w :: xs, d, e, x, hh, h, hw, hn, hm, hs, ha, hb => by
    obtain ⟨w', xs', d', e1, s, h⟩ := run_cons h
    cases e1
    have hwc := hw w (List.mem_cons_self ..)
    have hne : w ≠ [] := by
      intro e0
      unfold stepL at s
      rw [if_pos e0] at s; cases s
    cases t with
    | h => exact absurd (List.mem_cons_self ..) hh
    | n =>
      have hd := step_n s
      subst hd
      -- the names of d and w are names of e
      have ih := fun (x' : LS) (ha' : x'.a = d.names.length + 1) (hb' : x'.b = d.nums.length) => run_line c ts xs _ e x' (fun hm => hh (List.mem_cons_of_mem _ hm)) h (fun w hw' => hw w (List.mem_cons_of_mem _ hw')) hn hm hs (by simpa using ha') hb'
      obtain ⟨y0, _, _, _, _, _, _, _, hp, _⟩ := ih ⟨[], d.names.length + 1, d.nums.length, 0⟩ rfl rfl
      have hp2 : (d.names ++ [w]) <+: c.names := hp.trans hn
      have hg : c.names[x.a]? = some w := by
        obtain ⟨r, hr⟩ := hp2
        rw [← hr, ha]
        simp
      have hwl : wordL .n c x = w := by show c.names[x.a]?.getD [] = w; rw [hg]; rfl
      obtain ⟨y, r0, r1, r2, r3, r4, r5, r6, r7, r8⟩ := ih (nextL .n c x) (by show x.a + 1 = _; rw [ha]) hb
      refine ⟨y, ?_, r1, r2, r3, r4, r5, r6, (List.prefix_append _ _).trans r7, r8⟩
      unfold lineL
      rw [if_pos (by rw [hwl]; exact ⟨hne, hwc⟩)]
      exact r0
    | k =>
      obtain ⟨n, hn0, hd⟩ := step_k s
      subst hd
      have ih := fun (x' : LS) (ha' : x'.a = d.names.length) (hb' : x'.b = d.nums.length + 1) => run_line c ts xs _ e x' (fun hm => hh (List.mem_cons_of_mem _ hm)) h (fun w hw' => hw w (List.mem_cons_of_mem _ hw')) hn hm hs ha' (by simpa using hb')
      obtain ⟨y0, _, _, _, _, _, _, _, _, hp⟩ := ih ⟨[], d.names.length, d.nums.length + 1, 0⟩ rfl rfl
      have hlt : n < 1000000000 := by
        obtain ⟨r, hr⟩ := hp
        refine hs n ?_
        rw [← hr]; simp
      have hp2 : ((d.nums ++ [n]).map fun n : Nat => (n : Int)) <+: c.nums := by
        obtain ⟨r, hr⟩ := hp
        refine List.IsPrefix.trans ?_ hm
        rw [← hr]
        show ((d.nums ++ [n]).map fun n : Nat => (n : Int)) <+: (((d.nums ++ [n]) ++ r).map fun n : Nat => (n : Int))
        rw [List.map_append (l₁ := d.nums ++ [n])]
        exact List.prefix_append _ _
      have hg : c.nums[x.b]? = some (n : Int) := by
        obtain ⟨r, hr⟩ := hp2
        rw [← hr, hb]
        simp
      have hwl : wordL .k c x = w := by
        show numW c x.b = w
        unfold numW
        rw [hg]
        dsimp only
        rw [if_pos (by omega), hn0]
      obtain ⟨y, r0, r1, r2, r3, r4, r5, r6, r7, r8⟩ := ih (nextL .k c x) ha (by show x.b + 1 = _; rw [hb])
      refine ⟨y, ?_, r1, r2, r3, r4, r5, r6, r7, (List.prefix_append _ _).trans r8⟩
      unfold lineL
      rw [if_pos (by rw [hwl]; exact ⟨hne, hwc⟩)]
      exact r0
end Go.Proofs.YtjmgheogpglpnaaDoor
