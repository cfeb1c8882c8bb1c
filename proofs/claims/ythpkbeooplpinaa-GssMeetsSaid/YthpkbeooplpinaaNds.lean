/-
  Nds: the whole stack as a predicate over memory: nodes in a row, their frames and pops, three tallies.
-/
import Derived.Test.YthpkbeooplpinaaPopSeen
namespace Go.Proofs.Ythpkbeooplpinaa
open Go.RowKit
set_option linter.unusedVariables false
set_option linter.unusedSimpArgs false
/-- A node: its mark and place, its frames, its pops. -/
structure Nd where
  mark : Int
  place : Int
  fs : List (Int × Int)
  ps : List Int
/-- A node with the two slices that hold its frames and pops. -/
structure Rw where
  nd : Nd
  fv : Value
  pv : Value
def nc (L : List Rw) : List Value := L.flatMap fun r => [.int .i64 r.nd.mark, .int .i64 r.nd.place, r.fv, r.pv]
def fcells (l : List (Int × Int)) : List Value := l.flatMap fun p => [.int .i64 p.1, .int .i64 p.2]
def pcells (l : List Int) : List Value := l.map (.int .i64)
theorem nc_length (L : List Rw) : (nc L).length = L.length * 4 := by
  induction L with
  | nil => rfl
  | cons r L ih => simp only [nc, List.flatMap_cons, List.length_append, List.length_cons, List.length_nil] at ih ⊢; omega
theorem fcells_length (l : List (Int × Int)) : (fcells l).length = l.length * 2 := by
  induction l with
  | nil => rfl
  | cons r L ih => simp only [fcells, List.flatMap_cons, List.length_append, List.length_cons, List.length_nil] at ih ⊢; omega
theorem pcells_length (l : List Int) : (pcells l).length = l.length * 1 := by simp [pcells]
theorem nc_app (L : List Rw) (r : Rw) : nc (L ++ [r]) = nc L ++ [.int .i64 r.nd.mark, .int .i64 r.nd.place, r.fv, r.pv] := by simp [nc]
theorem fcells_app (l : List (Int × Int)) (p : Int × Int) : fcells (l ++ [p]) = fcells l ++ [.int .i64 p.1, .int .i64 p.2] := by simp [fcells]
theorem pcells_app (l : List Int) (p : Int) : pcells (l ++ [p]) = pcells l ++ [.int .i64 p] := by simp [pcells]
theorem fcells_one (l : List (Int × Int)) : ∀ u ∈ fcells l, u.oneCell' = true := by
  intro u hu
  simp [fcells] at hu
  obtain ⟨a, b, _, rfl | rfl⟩ := hu <;> rfl
theorem pcells_one (l : List Int) : ∀ u ∈ pcells l, u.oneCell' = true := by
  intro u hu
  simp [pcells] at hu
  obtain ⟨a, _, rfl⟩ := hu
  rfl
theorem nc_get {L : List Rw} {i : Nat} {r : Rw} (h : L[i]? = some r) : (nc L)[i * 4]? = some (.int .i64 r.nd.mark) ∧ (nc L)[i * 4 + 1]? = some (.int .i64 r.nd.place) ∧ (nc L)[i * 4 + 2]? = some r.fv ∧ (nc L)[i * 4 + 3]? = some r.pv := by
  induction L generalizing i with
  | nil => simp at h
  | cons x L ih =>
    have e : nc (x :: L) = .int .i64 x.nd.mark :: .int .i64 x.nd.place :: x.fv :: x.pv :: nc L := rfl
    cases i with
    | zero => simp at h; subst h; rw [e]; exact ⟨rfl, rfl, rfl, rfl⟩
    | succ i =>
      have := ih (by simpa using h)
      rw [e, show (i + 1) * 4 = i * 4 + 1 + 1 + 1 + 1 by omega, show i * 4 + 1 + 1 + 1 + 1 + 1 = (i * 4 + 1) + 1 + 1 + 1 + 1 by omega, show i * 4 + 1 + 1 + 1 + 1 + 2 = (i * 4 + 2) + 1 + 1 + 1 + 1 by omega, show i * 4 + 1 + 1 + 1 + 1 + 3 = (i * 4 + 3) + 1 + 1 + 1 + 1 by omega]
      simpa only [List.getElem?_cons_succ] using this
theorem nc_set2 {L : List Rw} {i : Nat} {r : Rw} (h : L[i]? = some r) (x : Int × Int) (v : Value) : (nc L).set (i * 4 + 2) v = nc (L.set i ⟨⟨r.nd.mark, r.nd.place, r.nd.fs ++ [x], r.nd.ps⟩, v, r.pv⟩) := by
  induction L generalizing i with
  | nil => simp at h
  | cons y L ih =>
    have e : ∀ (z : Rw) (M : List Rw), nc (z :: M) = .int .i64 z.nd.mark :: .int .i64 z.nd.place :: z.fv :: z.pv :: nc M := fun _ _ => rfl
    cases i with
    | zero => simp at h; subst h; rw [e]; simp only [List.set_cons_zero, e]; rfl
    | succ i =>
      rw [e, show (i + 1) * 4 + 2 = (i * 4 + 2) + 1 + 1 + 1 + 1 by omega]
      simp only [List.set_cons_succ, e]
      rw [ih (by simpa using h)]
theorem nc_set3 {L : List Rw} {i : Nat} {r : Rw} (h : L[i]? = some r) (x : Int) (v : Value) : (nc L).set (i * 4 + 3) v = nc (L.set i ⟨⟨r.nd.mark, r.nd.place, r.nd.fs, r.nd.ps ++ [x]⟩, r.fv, v⟩) := by
  induction L generalizing i with
  | nil => simp at h
  | cons y L ih =>
    have e : ∀ (z : Rw) (M : List Rw), nc (z :: M) = .int .i64 z.nd.mark :: .int .i64 z.nd.place :: z.fv :: z.pv :: nc M := fun _ _ => rfl
    cases i with
    | zero => simp at h; subst h; rw [e]; simp only [List.set_cons_zero, e]; rfl
    | succ i =>
      rw [e, show (i + 1) * 4 + 3 = (i * 4 + 3) + 1 + 1 + 1 + 1 by omega]
      simp only [List.set_cons_succ, e]
      rw [ih (by simpa using h)]
/-- The node of a mark and a place. -/
def look (l : List Nd) (a b : Int) : Option Nat := l.findIdx? fun x => x.mark == a && x.place == b
/-- What the three tallies say of the nodes. -/
structure Told (K : Nat) (l : List Nd) (c1 c2 c3 : Value → Option Int) : Prop where
  spots : ∀ a b, c1 (sp a b) = (look l a b).map fun i : Nat => (i : Int)
  framed : ∀ (i : Nat) (r : Nd), l[i]? = some r → ∀ x y : Int, ((x, y) ∈ r.fs → ∃ c, c2 (tr i x y) = some c ∧ 1 ≤ c ∧ c ≤ K) ∧ ((x, y) ∉ r.fs → c2 (tr i x y) = none)
  framedNot : ∀ i : Nat, l.length ≤ i → ∀ x y : Int, c2 (tr i x y) = none
  popped : ∀ (i : Nat) (r : Nd), l[i]? = some r → ∀ x : Int, (x ∈ r.ps → ∃ c, c3 (sp i x) = some c ∧ 1 ≤ c ∧ c ≤ K) ∧ (x ∉ r.ps → c3 (sp i x) = none)
  poppedNot : ∀ i : Nat, l.length ≤ i → ∀ x : Int, c3 (sp i x) = none
theorem sp_inj {a b c d : Int} : sp a b = sp c d ↔ a = c ∧ b = d := by simp [sp]
theorem tr_inj {a b c a' b' c' : Int} : tr a b c = tr a' b' c' ↔ a = a' ∧ b = b' ∧ c = c' := by simp [tr]
theorem Told.mono {K K' : Nat} {l : List Nd} {c1 c2 c3 : Value → Option Int} (h : Told K l c1 c2 c3) (hK : K ≤ K') : Told K' l c1 c2 c3 :=
  ⟨h.spots, fun i r hr x y => ⟨fun hm => (h.framed i r hr x y).1 hm |>.imp fun c hc => ⟨hc.1, hc.2.1, by omega⟩, (h.framed i r hr x y).2⟩, h.framedNot,
    fun i r hr x => ⟨fun hm => (h.popped i r hr x).1 hm |>.imp fun c hc => ⟨hc.1, hc.2.1, by omega⟩, (h.popped i r hr x).2⟩, h.poppedNot⟩
theorem look_new {l : List Nd} {a b : Int} (h : look l a b = none) (u v : Int) : look (l ++ [⟨a, b, [], []⟩]) u v = if u = a ∧ v = b then some l.length else look l u v := by
  unfold look at h ⊢
  rw [List.findIdx?_append]
  by_cases e : u = a ∧ v = b
  · obtain ⟨rfl, rfl⟩ := e
    rw [h]
    simp
  · have : ((a == u && b == v)) = false := by
      rw [Bool.and_eq_false_iff]
      by_cases e1 : a = u
      · right; simp; intro e2; exact e ⟨e1.symm, e2.symm⟩
      · left; simpa using e1
    simp [List.findIdx?_cons, this, e]
theorem Told.node {K : Nat} {l : List Nd} {c1 c2 c3 : Value → Option Int} (h : Told K l c1 c2 c3) {a b : Int} (hn : look l a b = none) : Told (K + 1) (l ++ [⟨a, b, [], []⟩]) (putAt c1 (sp a b) l.length) c2 c3 := by
  have h' := h.mono (Nat.le_succ K)
  refine ⟨fun u v => ?_, fun i r hr x y => ?_, fun i hi x y => h.framedNot i (by simp at hi; omega) x y, fun i r hr x => ?_, fun i hi x => h.poppedNot i (by simp at hi; omega) x⟩
  · rw [look_new hn]
    by_cases e : u = a ∧ v = b
    · obtain ⟨rfl, rfl⟩ := e
      rw [putAt_same]; simp
    · rw [putAt_other _ _ (fun e' => e (sp_inj.1 e')), if_neg e]
      exact h.spots u v
  · rcases Nat.lt_or_ge i l.length with hi | hi
    · exact h'.framed i r (by rwa [List.getElem?_append_left hi] at hr) x y
    · rw [List.getElem?_append_right hi] at hr
      have : r = ⟨a, b, [], []⟩ := by
        rcases hk : i - l.length with _ | k
        · rw [hk] at hr; simpa using hr.symm
        · rw [hk] at hr; simp at hr
      subst this
      exact ⟨fun hm => by simp at hm, fun _ => h.framedNot i hi x y⟩
  · rcases Nat.lt_or_ge i l.length with hi | hi
    · exact h'.popped i r (by rwa [List.getElem?_append_left hi] at hr) x
    · rw [List.getElem?_append_right hi] at hr
      have : r = ⟨a, b, [], []⟩ := by
        rcases hk : i - l.length with _ | k
        · rw [hk] at hr; simpa using hr.symm
        · rw [hk] at hr; simp at hr
      subst this
      exact ⟨fun hm => by simp at hm, fun _ => h.poppedNot i hi x⟩
theorem look_set {l : List Nd} {i : Nat} {r : Nd} (r' : Nd) (hr : l[i]? = some r) (h1 : r'.mark = r.mark) (h2 : r'.place = r.place) (a b : Int) : look (l.set i r') a b = look l a b := by
  unfold look
  induction l generalizing i with
  | nil => rfl
  | cons y l ih =>
    cases i with
    | zero => simp at hr; subst hr; simp [List.findIdx?_cons, h1, h2]
    | succ i => simp only [List.set_cons_succ, List.findIdx?_cons, ih (by simpa using hr)]
theorem set_get {α : Type} {l : List α} {i j : Nat} {x y : α} (h : (l.set i x)[j]? = some y) : (i = j ∧ i < l.length ∧ y = x) ∨ (i ≠ j ∧ l[j]? = some y) := by
  rw [List.getElem?_set] at h
  split at h
  · rename_i e
    split at h
    · exact .inl ⟨e, by assumption, (Option.some.inj h).symm⟩
    · cases h
  · exact .inr ⟨by assumption, h⟩
theorem Told.frame {K : Nat} {l : List Nd} {c1 c2 c3 : Value → Option Int} (h : Told K l c1 c2 c3) {i : Nat} {r : Nd} (hr : l[i]? = some r) (x y c : Int) (hc1 : 1 ≤ c) (hcK : c ≤ K + 1) : Told (K + 1) (l.set i ⟨r.mark, r.place, r.fs ++ [(x, y)], r.ps⟩) c1 (putAt c2 (tr i x y) c) c3 := by
  have h' := h.mono (Nat.le_succ K)
  have hi : i < l.length := (List.getElem?_eq_some_iff.1 hr).1
  refine ⟨fun u v => by rw [look_set ⟨r.mark, r.place, r.fs ++ [(x, y)], r.ps⟩ hr rfl rfl]; exact h.spots u v, fun j s hs u v => ?_, fun j hj u v => ?_, fun j s hs u => ?_, fun j hj u => h.poppedNot j (by simpa using hj) u⟩
  · rcases set_get hs with ⟨rfl, _, rfl⟩ | ⟨hne, hs⟩
    · by_cases e : u = x ∧ v = y
      · obtain ⟨rfl, rfl⟩ := e
        exact ⟨fun _ => ⟨c, putAt_same _ _ _, hc1, by omega⟩, fun hm => absurd (by simp) hm⟩
      · have e2 : putAt c2 (tr i x y) c (tr i u v) = c2 (tr i u v) := putAt_other _ _ fun e' => e ((tr_inj.1 e').2)
        rw [e2]
        refine ⟨fun hm => (h'.framed i r hr u v).1 ?_, fun hm => (h'.framed i r hr u v).2 fun hm' => hm (by simp [hm'])⟩
        simp at hm
        exact hm.resolve_right e
    · have e2 : putAt c2 (tr i x y) c (tr j u v) = c2 (tr j u v) := putAt_other _ _ fun e' => hne (by have := (tr_inj.1 e').1; omega)
      rw [e2]
      exact h'.framed j s hs u v
  · have e2 : putAt c2 (tr i x y) c (tr j u v) = c2 (tr j u v) := putAt_other _ _ fun e' => by have := (tr_inj.1 e').1; simp at hj; omega
    rw [e2]
    exact h.framedNot j (by simpa using hj) u v
  · rcases set_get hs with ⟨rfl, _, rfl⟩ | ⟨hne, hs⟩
    · exact h'.popped i r hr u
    · exact h'.popped j s hs u
theorem Told.frameSeen {K : Nat} {l : List Nd} {c1 c2 c3 : Value → Option Int} (h : Told K l c1 c2 c3) {i : Nat} {r : Nd} (hr : l[i]? = some r) (x y c : Int) (hm : (x, y) ∈ r.fs) (hc1 : 1 ≤ c) (hcK : c ≤ K + 1) : Told (K + 1) l c1 (putAt c2 (tr i x y) c) c3 := by
  have h' := h.mono (Nat.le_succ K)
  have hi : i < l.length := (List.getElem?_eq_some_iff.1 hr).1
  refine ⟨h.spots, fun j s hs u v => ?_, fun j hj u v => ?_, h'.popped, h.poppedNot⟩
  · by_cases e : tr j u v = tr i x y
    · obtain ⟨e1, rfl, rfl⟩ := tr_inj.1 e
      have : j = i := by omega
      subst this
      rw [hr] at hs; cases hs
      exact ⟨fun _ => ⟨c, putAt_same _ _ _, hc1, by omega⟩, fun hm' => absurd hm hm'⟩
    · rw [putAt_other _ _ e]; exact h'.framed j s hs u v
  · rw [putAt_other _ _ (fun e' => by have := (tr_inj.1 e').1; omega)]
    exact h.framedNot j hj u v
theorem Told.pop {K : Nat} {l : List Nd} {c1 c2 c3 : Value → Option Int} (h : Told K l c1 c2 c3) {i : Nat} {r : Nd} (hr : l[i]? = some r) (x c : Int) (hc1 : 1 ≤ c) (hcK : c ≤ K + 1) : Told (K + 1) (l.set i ⟨r.mark, r.place, r.fs, r.ps ++ [x]⟩) c1 c2 (putAt c3 (sp i x) c) := by
  have h' := h.mono (Nat.le_succ K)
  have hi : i < l.length := (List.getElem?_eq_some_iff.1 hr).1
  refine ⟨fun u v => by rw [look_set ⟨r.mark, r.place, r.fs, r.ps ++ [x]⟩ hr rfl rfl]; exact h.spots u v, fun j s hs u v => ?_, fun j hj u v => h.framedNot j (by simpa using hj) u v, fun j s hs u => ?_, fun j hj u => ?_⟩
  · rcases set_get hs with ⟨rfl, _, rfl⟩ | ⟨hne, hs⟩
    · exact h'.framed i r hr u v
    · exact h'.framed j s hs u v
  · rcases set_get hs with ⟨rfl, _, rfl⟩ | ⟨hne, hs⟩
    · by_cases e : u = x
      · subst e
        exact ⟨fun _ => ⟨c, putAt_same _ _ _, hc1, by omega⟩, fun hm => absurd (by simp) hm⟩
      · have e2 : putAt c3 (sp i x) c (sp i u) = c3 (sp i u) := putAt_other _ _ fun e' => e ((sp_inj.1 e').2)
        rw [e2]
        refine ⟨fun hm => (h'.popped i r hr u).1 ?_, fun hm => (h'.popped i r hr u).2 fun hm' => hm (by simp [hm'])⟩
        simp at hm
        exact hm.resolve_right e
    · have e2 : putAt c3 (sp i x) c (sp j u) = c3 (sp j u) := putAt_other _ _ fun e' => hne (by have := (sp_inj.1 e').1; omega)
      rw [e2]
      exact h'.popped j s hs u
  · have e2 : putAt c3 (sp i x) c (sp j u) = c3 (sp j u) := putAt_other _ _ fun e' => by have := (sp_inj.1 e').1; simp at hj; omega
    rw [e2]
    exact h.poppedNot j (by simpa using hj) u
theorem Told.popSeen {K : Nat} {l : List Nd} {c1 c2 c3 : Value → Option Int} (h : Told K l c1 c2 c3) {i : Nat} {r : Nd} (hr : l[i]? = some r) (x c : Int) (hm : x ∈ r.ps) (hc1 : 1 ≤ c) (hcK : c ≤ K + 1) : Told (K + 1) l c1 c2 (putAt c3 (sp i x) c) := by
  have h' := h.mono (Nat.le_succ K)
  have hi : i < l.length := (List.getElem?_eq_some_iff.1 hr).1
  refine ⟨h.spots, h'.framed, h.framedNot, fun j s hs u => ?_, fun j hj u => ?_⟩
  · by_cases e : sp j u = sp i x
    · obtain ⟨e1, rfl⟩ := sp_inj.1 e
      have : j = i := by omega
      subst this
      rw [hr] at hs; cases hs
      exact ⟨fun _ => ⟨c, putAt_same _ _ _, hc1, by omega⟩, fun hm' => absurd hm hm'⟩
    · rw [putAt_other _ _ e]; exact h'.popped j s hs u
  · rw [putAt_other _ _ (fun e' => by have := (sp_inj.1 e').1; omega)]
    exact h.poppedNot j hj u
/-- The blocks of a stack. -/
def foot (B m1 m2 m3 : Nat) (sl : Value) (L : List Rw) : Nat → Prop := fun k => k = B ∨ k = m1 ∨ k = m2 ∨ k = m3 ∨ sl.ownBlock = some k ∨ ∃ r ∈ L, r.fv.ownBlock = some k ∨ r.pv.ownBlock = some k
/-- The stack at B is this one, with these parts. -/
structure Core (w : World) (B K m1 m2 m3 : Nat) (sl : Value) (L : List Rw) (c1 c2 c3 : Value → Option Int) : Prop where
  top : Bk w B 77 #[sl, .map (some m1), .map (some m2), .map (some m3)]
  row : w.ownsRow 0 81 4 sl L.length (nc L)
  frames : ∀ (i : Nat) (r : Rw), L[i]? = some r → w.ownsRow 0 38 2 r.fv r.nd.fs.length (fcells r.nd.fs)
  pops : ∀ (i : Nat) (r : Rw), L[i]? = some r → w.ownsRow 0 3 1 r.pv r.nd.ps.length (pcells r.nd.ps)
  apartF : ∀ (i j : Nat) (r s : Rw), L[i]? = some r → L[j]? = some s → i ≠ j → r.fv.ownBlock = none ∨ r.fv.ownBlock ≠ s.fv.ownBlock
  apartP : ∀ (i j : Nat) (r s : Rw), L[i]? = some r → L[j]? = some s → i ≠ j → r.pv.ownBlock = none ∨ r.pv.ownBlock ≠ s.pv.ownBlock
  t1 : Tally w 79 m1 K c1
  t2 : Tally w 88 m2 K c2
  t3 : Tally w 70 m3 K c3
  m12 : m1 ≠ m2
  m13 : m1 ≠ m3
  m23 : m2 ≠ m3
  told : Told K (L.map Rw.nd) c1 c2 c3
  many : L.length ≤ K
  long : ∀ (i : Nat) (r : Rw), L[i]? = some r → r.nd.fs.length ≤ K ∧ r.nd.ps.length ≤ K
/-- The stack at B has these nodes; F are its blocks. -/
def Stk (w : World) (B K : Nat) (l : List Nd) (F : Nat → Prop) : Prop := ∃ m1 m2 m3 sl L c1 c2 c3, Core w B K m1 m2 m3 sl L c1 c2 c3 ∧ l = L.map Rw.nd ∧ F = foot B m1 m2 m3 sl L
end Go.Proofs.Ythpkbeooplpinaa
