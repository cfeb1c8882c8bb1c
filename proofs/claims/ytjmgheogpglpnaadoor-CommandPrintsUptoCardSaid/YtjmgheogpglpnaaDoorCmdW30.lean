/-
  A command that is handed in can be written; what Check and Print answer, as pure functions.
-/
import Derived.Test.YtjmgheogpglpnaaDoorCmdArg30
import Derived.Test.YtjmgheogpglpnaaDoorWriteF30
import Derived.Test.YtjmgheogpglpnaaDoorParsesLaw30
namespace Go.Proofs.YtjmgheogpglpnaaDoor
open Go.RowKit
set_option linter.unusedVariables false
set_option linter.unusedSimpArgs false
theorem txs_src {w : World} {ao : Option Addr} {c : Nat} {l : List Tx} (h : Txs w ao l) (h0 : ao = none → c = 0) : TxS w (.slice ao l.length c) l := by
  refine ⟨by simp, ?_⟩
  by_cases hn : 0 < l.length
  · obtain ⟨g, off, rfl, hg, hk⟩ := h hn
    refine .inr ⟨_, _, rfl, fun j u hu => ⟨hg, ?_⟩⟩
    rw [List.getElem?_map] at hu
    cases hy : l[j]? with
    | none => rw [hy] at hu; cases hu
    | some y =>
      rw [hy] at hu
      cases hu
      have := hk j y hy
      rw [add_none30]
      exact this
  · have : l = [] := by cases l <;> simp_all
    subst this
    cases ao with
    | none => rw [h0 rfl]; exact .inl ⟨rfl, rfl⟩
    | some a => exact .inr ⟨_, _, rfl, fun j u hu => by simp at hu⟩
theorem nms_src {w : World} {ao : Option Addr} {c : Nat} {l : List Int} (h : Nms w ao l) (h0 : ao = none → c = 0) : NmS w (.slice ao l.length c) l := by
  refine ⟨by simp, ?_⟩
  by_cases hn : 0 < l.length
  · obtain ⟨g, off, rfl, hg, hk⟩ := h hn
    refine .inr ⟨_, _, rfl, fun j u hu => ⟨hg, ?_⟩⟩
    rw [List.getElem?_map] at hu
    cases hy : l[j]? with
    | none => rw [hy] at hu; cases hu
    | some y =>
      rw [hy] at hu
      cases hu
      have := hk j y hy
      rw [add_none30]
      exact this
  · have : l = [] := by cases l <;> simp_all
    subst this
    cases ao with
    | none => rw [h0 rfl]; exact .inl ⟨rfl, rfl⟩
    | some a => exact .inr ⟨_, _, rfl, fun j u hu => by simp at hu⟩
theorem cmw_of {w : World} {V : Value} {c : CI} (h : CmI w V c) (hs : Slim V) : CmW w V c := by
  obtain ⟨no, nc, mo, mc, rfl, hN, hM, _, _⟩ := h
  obtain ⟨a, b, no', nn, nc', mo', mn, mc', t, e, h1, h2⟩ := hs
  unfold cmdV at e ⊢
  simp only [Value.agg.injEq, Array.mk.injEq, List.cons.injEq, Value.slice.injEq, and_true] at e
  obtain ⟨_, _, ⟨rfl, _, rfl⟩, ⟨rfl, _, rfl⟩, _⟩ := e
  exact ⟨_, _, rfl, txs_src hN h1, nms_src hM h2⟩
/-- A command in memory, its numbers of the language's, and what is asked of its size. -/
structure CmG (w : World) (V : Value) (c : CI) : Prop where
  i : CmI w V c
  w : CmW w V c
  n : 1 + (c.names.length + c.nums.length) ≤ 1099511627775
  f : ∀ n ∈ c.nums, -9223372036854775808 ≤ n ∧ n ≤ 9223372036854775807
  l : (writeF c).length ≤ 140737488351232
theorem CmG.move {w w' : World} {V : Value} {c : CI} (h : CmG w V c) (hf : Far (fun _ => False) w w') : CmG w' V c := ⟨h.i.move hf, h.w.move hf, h.n, h.f, h.l⟩
theorem read_all (l : Tx) (w : World) (hs : l.length ≤ 140737488351232) (hL : Lw w) : Calls Tryd.prog 20 #[st l] w (PPost w (parseF l)) :=
  read_any Lp l w hs (fun h => reads_all _ h (verbOf_le _)) fun kr kc W hf h1 h2 => ⟨hL.far hf fun k hk e => by have := hL.size; omega, by have := hL.size; omega, by have := hL.size; omega⟩
theorem parseF_small (l : Tx) : (cmdR (parseF l)).names.length ≤ 5 ∧ (cmdR (parseF l)).nums.length ≤ 5 := by
  rw [parse_ref]
  unfold refF refV
  split
  · exact ⟨Nat.zero_le _, Nat.zero_le _⟩
  · split
    · split <;> exact ⟨Nat.zero_le _, Nat.zero_le _⟩
    · have hf : ∀ v, (formV v).length ≤ 5 := fun v => by unfold formV; (repeat' split) <;> simp
      split
      · exact ⟨Nat.zero_le _, Nat.zero_le _⟩
      · rename_i c hc
        obtain ⟨a, b⟩ := runL_small hc
        have := hf (verbOf ((splitW l).headD []))
        exact ⟨Nat.le_trans a (by show 0 + _ ≤ 5; omega), Nat.le_trans b (by show 0 + _ ≤ 5; omega)⟩
/-- What Check answers: the line is read again as the same command. -/
def checkF (c : CI) : Nat := match parseF (writeF c) with
  | .inl _ => 2
  | .inr d => if upC d = c then (if 2064 < (writeF c).length then 3 else 0) else 2
theorem codeR_inl (k : Nat) : codeR (.inl k) = k := rfl
theorem codeR_inr (c : Cm) : codeR (.inr c) = 0 := rfl
theorem parse_code {l : Tx} {k : Nat} (h : parseF l = .inl k) : k = 400 ∨ k = 401 := by
  rw [parse_ref] at h
  unfold refF refV at h
  split at h
  · injection h with h; exact .inl h.symm
  · split at h
    · split at h
      · injection h with h; exact .inr h.symm
      · cases h
    · split at h
      · injection h with h; exact .inr h.symm
      · cases h
theorem num_small {x : Tx} {n : Nat} (h : numT x = some n) : n < 1000000000 := by
  rw [numT_numR] at h
  exact (numR_dec h).2.2
theorem runL_nums : ∀ {ts : List Lt} {xs : List Tx} {c c' : Cm}, runL ts xs c = some c' → (∀ n ∈ c.nums, n < 1000000000) → ∀ n ∈ c'.nums, n < 1000000000
  | [], [], c, c', h, h0 => by
    simp only [runL, Option.some.injEq] at h
    subst h; exact h0
  | [], _ :: _, _, _, h, _ => by simp [runL] at h
  | _ :: _, [], _, _, h, _ => by simp [runL] at h
  | t :: ts, x :: xs, c, c', h, h0 => by
    unfold runL at h
    cases hs : stepL t x c with
    | none => rw [hs] at h; cases h
    | some d =>
      rw [hs] at h
      refine runL_nums h ?_
      unfold stepL at hs
      split at hs
      · cases hs
      · cases t with
        | n => injection hs with hs; subst hs; exact h0
        | k =>
          dsimp only at hs
          split at hs
          · cases hs
          · rename_i n hn
            injection hs with hs; subst hs
            intro m hm
            rcases List.mem_append.1 hm with hm | hm
            · exact h0 m hm
            · simp only [List.mem_singleton] at hm
              rw [hm]; exact num_small hn
        | h =>
          dsimp only at hs
          split at hs
          · cases hs
          · injection hs with hs; subst hs; exact h0
theorem parseF_nums (l : Tx) : ∀ n ∈ (cmdR (parseF l)).nums, n < 1000000000 := by
  rw [parse_ref]
  unfold refF refV
  split
  · intro n hn; cases hn
  · split
    · split <;> (intro n hn; cases hn)
    · split
      · intro n hn; cases hn
      · rename_i c hc
        exact runL_nums hc fun n hn => by cases hn
end Go.Proofs.YtjmgheogpglpnaaDoor
