/-
  The chart in memory.
-/
import Derived.Test.YteojbnkjphghkaaDoorPM15
import Derived.Test.YteojbnkjphghkaaDoorDer15
import Derived.Test.YteojbnkjphghkaaDoorAllSeq15
namespace Go.Proofs.YteojbnkjphghkaaDoor
open Go.RowKit
set_option linter.unusedVariables false
set_option linter.unusedSimpArgs false
def pcell (p : Pc) : List Value := [.int .i64 p.1, .int .i64 (p.2.1 : Int), .int .i64 (p.2.2 : Int)]
def pcells (K : List Pc) : List Value := K.flatMap pcell
theorem pcells_app (K : List Pc) (p : Pc) : pcells (K ++ [p]) = pcells K ++ [.int .i64 p.1, .int .i64 (p.2.1 : Int), .int .i64 (p.2.2 : Int)] := by simp [pcells, pcell]
theorem pcells_at : ∀ {K : List Pc} {i : Nat} {p : Pc}, K[i]? = some p → (pcells K)[i * 3]? = some (.int .i64 p.1) ∧ (pcells K)[i * 3 + 1]? = some (.int .i64 (p.2.1 : Int)) ∧ (pcells K)[i * 3 + 2]? = some (.int .i64 (p.2.2 : Int))
  | [], i, p, h => by simp at h
  | q :: K, 0, p, h => by
    simp only [List.getElem?_cons_zero, Option.some.injEq] at h
    subst h
    exact ⟨rfl, rfl, rfl⟩
  | q :: K, i + 1, p, h => by
    have := pcells_at (K := K) (i := i) (p := p) (by simpa using h)
    have e : pcells (q :: K) = pcell q ++ pcells K := rfl
    have hl : (pcell q).length = 3 := rfl
    refine ⟨?_, ?_, ?_⟩
    · rw [e, List.getElem?_append_right (by omega), hl, show (i + 1) * 3 - 3 = i * 3 by omega]; exact this.1
    · rw [e, List.getElem?_append_right (by omega), hl, show (i + 1) * 3 + 1 - 3 = i * 3 + 1 by omega]; exact this.2.1
    · rw [e, List.getElem?_append_right (by omega), hl, show (i + 1) * 3 + 2 - 3 = i * 3 + 2 by omega]; exact this.2.2
theorem pcells_len (K : List Pc) : (pcells K).length = K.length * 3 := by
  induction K with
  | nil => rfl
  | cons p K ih => rw [show pcells (p :: K) = pcell p ++ pcells K from rfl, List.length_append, ih, show (pcell p).length = 3 from rfl, List.length_cons]; omega
abbrev Ends := Int → Int → Nat × Nat
/-- What the two maps say is what the list of pieces has. -/
structure KI (E G : Ends) (K : List Pc) (S n : Nat) : Prop where
  eW : ∀ a b, Wd (E a b)
  gW : ∀ a b, Wd (G a b)
  eK : ∀ (a : Int) (i j : Nat), j < 128 → (memP (E a i) j = true ↔ (a, i, j) ∈ K)
  gK : ∀ (a : Int) (i j : Nat), i < 128 → (memP (G a j) i = true ↔ (a, i, j) ∈ K)
  nd : K.Nodup
  inn : ∀ p ∈ K, PcIn S n p
theorem memP_zero (x : Nat) : memP (0, 0) x = false := by simp [memP, memS]
theorem KI.nil (S n : Nat) : KI (fun _ _ => (0, 0)) (fun _ _ => (0, 0)) [] S n :=
  ⟨fun _ _ => ⟨by decide, by decide⟩, fun _ _ => ⟨by decide, by decide⟩, fun a i j _ => by rw [memP_zero]; simp, fun a i j _ => by rw [memP_zero]; simp, List.nodup_nil, fun p hp => by cases hp⟩
theorem KI.push {E G : Ends} {K : List Pc} {S n : Nat} (h : KI E G K S n) {p : Pc} (hp : p ∉ K) (hn : PcIn S n p) {e g : Nat × Nat} (he : Wd e) (hg : Wd g) (he2 : ∀ x, memP e x = (memP (E p.1 p.2.1) x || decide (x = p.2.2))) (hg2 : ∀ x, memP g x = (memP (G p.1 p.2.2) x || decide (x = p.2.1))) :
    KI (putE E p.1 p.2.1 e) (putE G p.1 p.2.2 g) (K ++ [p]) S n := by
  refine ⟨fun a b => ?_, fun a b => ?_, fun a i j hj => ?_, fun a i j hi => ?_, ?_, fun q hq => ?_⟩
  · unfold putE; split
    · exact he
    · exact h.eW a b
  · unfold putE; split
    · exact hg
    · exact h.gW a b
  · unfold putE
    rw [List.mem_append, List.mem_singleton]
    by_cases c : a = p.1 ∧ (i : Int) = (p.2.1 : Int)
    · rw [if_pos c, he2]
      obtain ⟨rfl, c2⟩ := c
      have c2 : i = p.2.1 := by omega
      subst c2
      rw [Bool.or_eq_true, h.eK _ _ _ hj, decide_eq_true_eq]
      refine or_congr_right ⟨fun e => ?_, fun e => ?_⟩
      · subst e; rfl
      · rw [← e]
    · rw [if_neg c, h.eK _ _ _ hj]
      refine ⟨.inl, fun q => q.elim id fun e => absurd ?_ c⟩
      rw [← e]
      exact ⟨rfl, rfl⟩
  · unfold putE
    rw [List.mem_append, List.mem_singleton]
    by_cases c : a = p.1 ∧ (j : Int) = (p.2.2 : Int)
    · rw [if_pos c, hg2]
      obtain ⟨rfl, c2⟩ := c
      have c2 : j = p.2.2 := by omega
      subst c2
      rw [Bool.or_eq_true, h.gK _ _ _ hi, decide_eq_true_eq]
      refine or_congr_right ⟨fun e => ?_, fun e => ?_⟩
      · subst e; rfl
      · rw [← e]
    · rw [if_neg c, h.gK _ _ _ hi]
      refine ⟨.inl, fun q => q.elim id fun e => absurd ?_ c⟩
      rw [← e]
      exact ⟨rfl, rfl⟩
  · rw [List.nodup_append]
    refine ⟨h.nd, (by simp), fun a ha b hb e => ?_⟩
    rw [List.mem_singleton.1 hb] at e
    exact hp (e ▸ ha)
  · rcases List.mem_append.1 hq with hq | hq
    · exact h.inn q hq
    · rw [List.mem_singleton.1 hq]; exact hn
/-- A piece more. -/
def addK (K : List Pc) (p : Pc) : List Pc := if p ∈ K then K else K ++ [p]
theorem addK_old {K : List Pc} {p : Pc} (h : p ∈ K) : addK K p = K := if_pos h
theorem addK_new {K : List Pc} {p : Pc} (h : p ∉ K) : addK K p = K ++ [p] := if_neg h
theorem addK_pre (K : List Pc) (p : Pc) : K <+: addK K p := by
  unfold addK
  split
  · exact List.prefix_rfl
  · exact List.prefix_append _ _
theorem addK_mem {K : List Pc} {p q : Pc} : q ∈ addK K p ↔ q ∈ K ∨ q = p := by
  unfold addK
  split
  · rename_i h
    exact ⟨.inl, fun h' => h'.elim id fun e => e ▸ h⟩
  · rw [List.mem_append, List.mem_singleton]
/-- The blocks of the chart that are written. -/
def ChF (kB eB gB : Nat) (rv : Value) (k : Nat) : Prop := k = kB ∨ k = eB ∨ k = gB ∨ rv.ownBlock = some k
/-- The chart in block kB. -/
structure Ch (w : World) (kB eB gB B S n : Nat) (pv wv lv fv rv : Value) (E G : Ends) (K : List Pc) : Prop where
  box : Bk w kB 84 #[.int .i64 (S : Int), pv, wv, .map (some eB), .map (some gB), rv, lv, fv]
  e : PM w eB K.length E
  g : PM w gB K.length G
  row : w.ownsRow B 59 3 rv K.length (pcells K)
  ne : eB ≠ gB
  ki : KI E G K S n
  hi : B ≤ w.heap.size
theorem Ch.go {w w' : World} {kB eB gB B S n : Nat} {pv wv lv fv rv : Value} {E G : Ends} {K : List Pc} {F : Nat → Prop} (h : Ch w kB eB gB B S n pv wv lv fv rv E G K) (hf : Far F w w') (hF : ∀ k, F k → ¬ ChF kB eB gB rv k) : Ch w' kB eB gB B S n pv wv lv fv rv E G K :=
  ⟨h.box.far' hf fun q => hF _ q (.inl rfl), h.e.far hf fun q => hF _ q (.inr (.inl rfl)), h.g.far hf fun q => hF _ q (.inr (.inr (.inl rfl))), row_far h.row hf fun k hk q => hF _ q (.inr (.inr (.inr hk))), h.ne, h.ki, Nat.le_trans h.hi hf.size⟩
theorem Ch.move {w w' : World} {kB eB gB B S n : Nat} {pv wv lv fv rv : Value} {E G : Ends} {K : List Pc} (h : Ch w kB eB gB B S n pv wv lv fv rv E G K) (hf : Far (fun _ => False) w w') : Ch w' kB eB gB B S n pv wv lv fv rv E G K := h.go hf fun _ q => q.elim
theorem Ch.kne {w : World} {kB eB gB B S n : Nat} {pv wv lv fv rv : Value} {E G : Ends} {K : List Pc} (h : Ch w kB eB gB B S n pv wv lv fv rv E G K) : kB ≠ eB ∧ kB ≠ gB := ⟨fun e => h.e.notCells (e ▸ h.box), fun e => h.g.notCells (e ▸ h.box)⟩
theorem Ch.rne {w : World} {kB eB gB B S n : Nat} {pv wv lv fv rv : Value} {E G : Ends} {K : List Pc} (h : Ch w kB eB gB B S n pv wv lv fv rv E G K) : rv.ownBlock ≠ some kB ∧ rv.ownBlock ≠ some eB ∧ rv.ownBlock ≠ some gB := by
  refine ⟨own_ne h.row h.box (by decide), fun e => ?_, fun e => ?_⟩
  · obtain ⟨_, hl⟩ := h.row.lt _ e
    rcases h.row.2 with ⟨q, _⟩ | ⟨g', cap, cur, q, _, hg, _⟩
    · rw [q] at e; cases e
    · rw [q] at e
      obtain rfl : g' = eB := Option.some.inj e
      exact h.e.notCells hg
  · rcases h.row.2 with ⟨q, _⟩ | ⟨g', cap, cur, q, _, hg, _⟩
    · rw [q] at e; cases e
    · rw [q] at e
      obtain rfl : g' = gB := Option.some.inj e
      exact h.g.notCells hg
/-- A block of values of another kind than the chart's own. -/
theorem Ch.other {w : World} {kB eB gB B S n : Nat} {pv wv lv fv rv : Value} {E G : Ends} {K : List Pc} (h : Ch w kB eB gB B S n pv wv lv fv rv E G K) {k : Nat} {t : TypeId} {cs : Array Value} (hk : Bk w k t cs) (h1 : 84 ≠ t) (h2 : 59 ≠ t) : ¬ ChF kB eB gB rv k := by
  rintro (rfl | rfl | rfl | e)
  · have := h.box
    unfold Bk at this hk
    rw [this] at hk
    cases hk
    exact h1 rfl
  · exact h.e.notCells hk
  · exact h.g.notCells hk
  · exact own_ne h.row hk h2 e
end Go.Proofs.YteojbnkjphghkaaDoor
