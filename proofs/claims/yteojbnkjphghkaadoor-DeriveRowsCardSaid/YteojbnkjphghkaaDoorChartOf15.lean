/-
  chartOf: the chart has what each nonterminal derives of the word.
-/
import Derived.Test.YteojbnkjphghkaaDoorBegin1
import Derived.Test.YteojbnkjphghkaaDoorBegin2
import Derived.Test.YteojbnkjphghkaaDoorCheckC
import Derived.Laws.MakeOwn
namespace Go.Proofs.YteojbnkjphghkaaDoor
open Go.RowKit
set_option linter.unusedVariables false
set_option linter.unusedSimpArgs false
theorem lists_row : (Tryd.prog.info? 121).map (fun i => (i.zero, i.size, i.bytes)) = some (some (.slice none 0 0), 1, 24) := by kernel_rfl
def nilV : Bool → Nat → Value := fun _ _ => .slice none 0 0
theorem made_lists (n : Nat) : madeCells (Value.slice none 0 0).cells (n * 1) = ((List.range n).map (nilV false)).toArray := by
  apply Array.ext
  · simp [madeCells]
  · intro j h1 h2
    simp [madeCells, Value.cells, Nat.mod_one, nilV]
theorem make_lists (n : Nat) (hn : n ≤ 1099511627776) (w : World) : (Instr.makeSlice 82 (.int .i64 (n : Int)) (.int .i64 (n : Int))).run Tryd.prog w = .ok (.slice (some ⟨w.heap.size, 0, none⟩) n n) (w.alloc (.cells ((List.range n).map (nilV false)).toArray 121)) := by
  obtain ⟨i, hi, hz, h1, h2⟩ := info_parts lists_row
  have := run_make (P := Tryd.prog) w 82 121 i (.slice none 0 0) Tryd.underlying82 hi hz .i64 .i64 (n : Int) (n : Int) (by omega) (Int.le_refl _) (by rw [h2]; omega) (by omega)
  rw [Int.toNat_natCast, h1, made_lists] at this
  exact this
theorem LR.nil {w : World} {gl gr S : Nat} (hl : Bk w gl 121 ((List.range S).map (nilV false)).toArray) (hr : Bk w gr 121 ((List.range S).map (nilV false)).toArray) (hne : gl ≠ gr) : LR w gl gr S nilV (fun _ _ => []) :=
  ⟨hl, hr, fun s a ha => World.ownsRow_nil _ _ _ _, (fun s a s' a' _ _ _ k hk => by cases hk), hne⟩
/-- The lists have just the pairs of the productions so far. -/
def LSp (S : Nat) (P : List Hb) (L : Bool → Nat → List (Int × Int)) : Prop := ∀ h o : Int, (∀ a, a < S → ((h, o) ∈ L false a ↔ ∃ b d, (h, [(b, (a : Int)), (d, o)]) ∈ P)) ∧ ∀ c, c < S → ((h, o) ∈ L true c ↔ ∃ b d, (h, [(b, o), (d, (c : Int))]) ∈ P)
theorem LSp.nil (S : Nat) : LSp S [] (fun _ _ => []) := fun h o => ⟨fun a _ => by simp, fun a _ => by simp⟩
theorem LSp.skip {S : Nat} {P : List Hb} {L : Bool → Nat → List (Int × Int)} (h : LSp S P L) {p : Hb} (hp : p.2.length ≤ 1) : LSp S (P ++ [p]) L := by
  have hx : ∀ {q : Hb} {x y : Sy}, q.2 = [x, y] → (q ∈ P ++ [p] ↔ q ∈ P) := fun {q x y} e => by
    rw [List.mem_append, List.mem_singleton]
    refine ⟨fun h => h.elim id fun e2 => ?_, .inl⟩
    subst e2
    rw [e] at hp
    simp at hp
  refine fun hd o => ⟨fun a ha => ((h hd o).1 a ha).trans ?_, fun c hc => ((h hd o).2 c hc).trans ?_⟩
  · exact ⟨fun ⟨b, d, e⟩ => ⟨b, d, (hx rfl).2 e⟩, fun ⟨b, d, e⟩ => ⟨b, d, (hx rfl).1 e⟩⟩
  · exact ⟨fun ⟨b, d, e⟩ => ⟨b, d, (hx rfl).2 e⟩, fun ⟨b, d, e⟩ => ⟨b, d, (hx rfl).1 e⟩⟩
theorem LSp.push {S : Nat} {P : List Hb} {L : Bool → Nat → List (Int × Int)} (h : LSp S P L) {hd : Int} {xb yb : Bool} {xa ya : Nat} : LSp S (P ++ [(hd, [(xb, (xa : Int)), (yb, (ya : Int))])]) (putL (putL L false xa (hd, (ya : Int))) true ya (hd, (xa : Int))) := by
  refine fun h0 o => ⟨fun a ha => ?_, fun c hc => ?_⟩
  · have e : putL (putL L false xa (hd, (ya : Int))) true ya (hd, (xa : Int)) false a = putL L false xa (hd, (ya : Int)) false a := by
      unfold putL; rw [if_neg (by simp)]
    rw [e]
    unfold putL
    by_cases c : a = xa
    · subst c
      rw [if_pos ⟨rfl, rfl⟩, List.mem_append, List.mem_singleton, (h h0 o).1 a ha]
      constructor
      · rintro (⟨b, d, q⟩ | q)
        · exact ⟨b, d, List.mem_append_left _ q⟩
        · cases q
          exact ⟨xb, yb, List.mem_append_right _ (List.mem_singleton.2 rfl)⟩
      · rintro ⟨b, d, q⟩
        rcases List.mem_append.1 q with q | q
        · exact .inl ⟨b, d, q⟩
        · have := List.mem_singleton.1 q
          simp only [Prod.mk.injEq, List.cons.injEq, and_true] at this
          exact .inr (by rw [this.1, this.2.2.2])
    · rw [if_neg fun e => c e.2, (h h0 o).1 a ha]
      constructor
      · rintro ⟨b, d, q⟩
        exact ⟨b, d, List.mem_append_left _ q⟩
      · rintro ⟨b, d, q⟩
        rcases List.mem_append.1 q with q | q
        · exact ⟨b, d, q⟩
        · have := List.mem_singleton.1 q
          simp only [Prod.mk.injEq, List.cons.injEq, and_true] at this
          exact absurd (by have := this.2.1.2; omega) c
  · unfold putL
    by_cases e : c = ya
    · subst e
      rw [if_pos ⟨rfl, rfl⟩, if_neg (by simp), List.mem_append, List.mem_singleton, (h h0 o).2 c hc]
      constructor
      · rintro (⟨b, d, q⟩ | q)
        · exact ⟨b, d, List.mem_append_left _ q⟩
        · cases q
          exact ⟨xb, yb, List.mem_append_right _ (List.mem_singleton.2 rfl)⟩
      · rintro ⟨b, d, q⟩
        rcases List.mem_append.1 q with q | q
        · exact .inl ⟨b, d, q⟩
        · have := List.mem_singleton.1 q
          simp only [Prod.mk.injEq, List.cons.injEq, and_true] at this
          exact .inr (by rw [this.1, this.2.1.2])
    · rw [if_neg fun q => e q.2, if_neg (by simp), (h h0 o).2 c hc]
      constructor
      · rintro ⟨b, d, q⟩
        exact ⟨b, d, List.mem_append_left _ q⟩
      · rintro ⟨b, d, q⟩
        rcases List.mem_append.1 q with q | q
        · exact ⟨b, d, q⟩
        · have := List.mem_singleton.1 q
          simp only [Prod.mk.injEq, List.cons.injEq, and_true] at this
          exact absurd (by have := this.2.2.2; omega) e
theorem makes_der {P : List Hb} {W : List Int} {h : Int} {l : List Sy} {i j : Nat} (hp : (h, l) ∈ P) (hl : l.length ≤ 1) (hm : makesB l W i j = true) (hi : i ≤ W.length) : Der P W h i j := by
  match l with
  | [] =>
    simp [makesB] at hm
    subst hm
    exact .eps hp hi
  | [x] =>
    simp [makesB] at hm
    obtain ⟨rfl, hw⟩ := hm
    exact .one hp hw
  | x :: y :: l => simp at hl
/-- What a chart has when all is done. -/
theorem chart_all {P : List Hb} {W : List Int} {K : List Pc} (hd : ∀ q ∈ K, Der P W q.1 q.2.1 q.2.2) (hs : ∀ p ∈ P, p.2.length ≤ 1 → ∀ i j : Nat, i ≤ W.length → j ≤ W.length → makesB p.2 W i j = true → (p.1, i, j) ∈ K) (hD : Done P K K.length) (h : Int) (i j : Nat) : (h, i, j) ∈ K ↔ Der P W h i j := by
  refine ⟨hd _, fun q => ?_⟩
  refine der_least (K := (· ∈ K)) ⟨fun h i hp hi => hs _ hp (by simp) i i hi hi (by simp [makesB]), fun h b n i hp hw => ?_⟩ (done_pair hD) q
  have := (List.getElem?_eq_some_iff.1 hw).1
  exact hs _ hp (by simp) i (i + 1) (by omega) (by omega) (by simp [makesB, hw])
end Go.Proofs.YteojbnkjphghkaaDoor
