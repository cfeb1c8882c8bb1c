/-
  The lists of pairs by their nonterminals; a range over places, from any frame.
-/
import Derived.Test.YteojbnkjphghkaaDoorAdd15
import Derived.Test.YteojbnkjphghkaaDoorLoopD
namespace Go.Proofs.YteojbnkjphghkaaDoor
open Go.RowKit Go.Shelf
set_option linter.unusedVariables false
set_option linter.unusedSimpArgs false
theorem own_type {w : World} {B sz n r : Nat} {e : TypeId} {v : Value} {xs : List Value} (h : w.ownsRow B e sz v n xs) (hr : v.ownBlock = some r) : B ≤ r ∧ ∃ cs, Bk w r e cs := by
  rcases h.2 with ⟨rfl, _⟩ | ⟨g, cap, cur, rfl, hB, hg, _⟩
  · cases hr
  · have : g = r := Option.some.inj hr
    subst this
    exact ⟨hB, cur, hg⟩
theorem bk_type {w : World} {r : Nat} {t t' : TypeId} {cs cs' : Array Value} (h : Bk w r t cs) (h' : Bk w r t' cs') : t = t' := by
  unfold Bk at h h'
  rw [h] at h'
  cases h'
  rfl
theorem row_other {A C : World} {F : Nat → Prop} {base e size n : Nat} {v : Value} {xs : List Value} (h : A.ownsRow base e size v n xs) (hf : Far F A C) (hF : ∀ k, F k → ∃ o : Obj, A.heap[k]? = some o ∧ o.isCells = false) : C.ownsRow base e size v n xs :=
  row_same h fun k hk hk2 => hf.block k hk2 fun hfk => by
    obtain ⟨o, ho, hc⟩ := hF k hfk
    obtain ⟨_, cs, hb⟩ := own_type h hk
    rw [show A.heap[k]? = _ from hb] at ho
    cases ho
    cases hc
theorem grown_F {A C : World} {row : Option Nat} (hg : A.grownBy C row) : Far (fun k => row = some k) A C := (Far.refl _ A).grown hg fun k _ e => e
theorem bk_other {A C : World} {F : Nat → Prop} {k : Nat} {t : TypeId} {cs : Array Value} (h : Bk A k t cs) (hf : Far F A C) (hF : ∀ k, F k → ∃ o : Obj, A.heap[k]? = some o ∧ o.isCells = false) : Bk C k t cs :=
  h.far' hf fun e => by
    obtain ⟨o, ho, hc⟩ := hF k e
    rw [show A.heap[k]? = _ from h] at ho
    cases ho
    cases hc
def prcell (p : Int × Int) : List Value := [.int .i64 p.1, .int .i64 p.2]
def prcells (l : List (Int × Int)) : List Value := l.flatMap prcell
theorem prcells_app (l : List (Int × Int)) (p : Int × Int) : prcells (l ++ [p]) = prcells l ++ [.int .i64 p.1, .int .i64 p.2] := by simp [prcells, prcell]
theorem prcells_len (l : List (Int × Int)) : (prcells l).length = l.length * 2 := by
  induction l with
  | nil => rfl
  | cons p l ih => rw [show prcells (p :: l) = prcell p ++ prcells l from rfl, List.length_append, ih, show (prcell p).length = 2 from rfl, List.length_cons]; omega
theorem prcells_at : ∀ {l : List (Int × Int)} {i : Nat} {p : Int × Int}, l[i]? = some p → (prcells l)[i * 2]? = some (.int .i64 p.1) ∧ (prcells l)[i * 2 + 1]? = some (.int .i64 p.2)
  | [], i, p, h => by simp at h
  | q :: l, 0, p, h => by
    simp only [List.getElem?_cons_zero, Option.some.injEq] at h
    subst h
    exact ⟨rfl, rfl⟩
  | q :: l, i + 1, p, h => by
    have := prcells_at (l := l) (i := i) (p := p) (by simpa using h)
    have e : prcells (q :: l) = prcell q ++ prcells l := rfl
    have hl : (prcell q).length = 2 := rfl
    refine ⟨?_, ?_⟩
    · rw [e, List.getElem?_append_right (by omega), hl, show (i + 1) * 2 - 2 = i * 2 by omega]; exact this.1
    · rw [e, List.getElem?_append_right (by omega), hl, show (i + 1) * 2 + 1 - 2 = i * 2 + 1 by omega]; exact this.2
/-- The pairs by their first (false) and by their second nonterminals (true): two lists of S lists, each in a row of its own. -/
structure LR (w : World) (gl gr S : Nat) (V : Bool → Nat → Value) (L : Bool → Nat → List (Int × Int)) : Prop where
  bl : Bk w gl 121 ((List.range S).map (V false)).toArray
  br : Bk w gr 121 ((List.range S).map (V true)).toArray
  row : ∀ s a, a < S → w.ownsRow 0 123 2 (V s a) (L s a).length (prcells (L s a))
  dist : ∀ s a s' a', a < S → a' < S → (s, a) ≠ (s', a') → ∀ k, (V s a).ownBlock = some k → (V s' a').ownBlock ≠ some k
  ne : gl ≠ gr
theorem LR.go {w w' : World} {gl gr S : Nat} {V : Bool → Nat → Value} {L : Bool → Nat → List (Int × Int)} {F : Nat → Prop} (h : LR w gl gr S V L) (hf : Far F w w') (hF : ∀ k, F k → ∀ t cs, Bk w k t cs → t ≠ 121 ∧ t ≠ 123) : LR w' gl gr S V L :=
  ⟨h.bl.far' hf fun q => (hF _ q _ _ h.bl).1 rfl, h.br.far' hf fun q => (hF _ q _ _ h.br).1 rfl, fun s a ha => row_far (h.row s a ha) hf fun k hk q => by
    obtain ⟨_, cs, hb⟩ := own_type (h.row s a ha) hk
    exact (hF k q _ _ hb).2 rfl, h.dist, h.ne⟩
theorem LR.move {w w' : World} {gl gr S : Nat} {V : Bool → Nat → Value} {L : Bool → Nat → List (Int × Int)} (h : LR w gl gr S V L) (hf : Far (fun _ => False) w w') : LR w' gl gr S V L := h.go hf fun _ q => q.elim
theorem LR.ch {w w' : World} {gl gr S : Nat} {V : Bool → Nat → Value} {L : Bool → Nat → List (Int × Int)} {kB eB gB B S' n : Nat} {pv wv lv fv rv : Value} {E G : Ends} {K : List Pc} (h : LR w gl gr S V L) (hC : Ch w kB eB gB B S' n pv wv lv fv rv E G K) (hf : Far (ChF kB eB gB rv) w w') : LR w' gl gr S V L :=
  h.go hf fun k q t cs hb => by
    rcases q with rfl | rfl | rfl | e
    · rw [bk_type hb hC.box]; exact ⟨by decide, by decide⟩
    · exact absurd hb hC.e.notCells
    · exact absurd hb hC.g.notCells
    · obtain ⟨_, cs', hb'⟩ := own_type hC.row e
      rw [bk_type hb hb']; exact ⟨by decide, by decide⟩
theorem LR.at {w : World} {gl gr S : Nat} {V : Bool → Nat → Value} {L : Bool → Nat → List (Int × Int)} (h : LR w gl gr S V L) (s : Bool) {a : Nat} (ha : a < S) : w.cell? ⟨if s then gr else gl, a, none⟩ = some (V s a) := by
  have hx : (((List.range S).map (V s)).toArray)[a]? = some (V s a) := by simp [ha]
  cases s
  · exact (h.bl.cell a).trans hx
  · exact (h.br.cell a).trans hx
/-- all: the sequence, its places in a box of its own. -/
theorem all_any (p : Nat × Nat) (w : World) : Calls Tryd.prog 34 #[.agg #[.int .u64 (p.1 : Int), .int .u64 (p.2 : Int)]] w fun e w' => e = .returned (.func (.func 51) #[] #[.pointer (some ⟨w.heap.size, 0, none⟩)]) ∧ w' = w.alloc (.cells #[.int .u64 (p.1 : Int), .int .u64 (p.2 : Int)] 79) := by
  go_enter Tryd.func34, Tryd.ntmps34
  go_wp2_with fail
  go_ret
  exact ⟨rfl, rfl⟩
theorem keepS_refl (K : Nat → Prop) (W : World) : KeepS K W W := ⟨fun _ _ => rfl, Nat.le_refl _⟩
theorem range_pl {g : Operand} {p q : Nat} {assign body : Code} {Q : Exit → Act → World → Prop} {T : Array Value} {ds : List Deferred} {w : World} (h : Nat) (pp : Nat × Nat) (hp : Wd pp) (hX : Bk w h 79 #[.int .u64 (pp.1 : Int), .int .u64 (pp.2 : Int)]) (hT : Tab w)
    (hg : Act.eval { tmps := T, defers := ds } g = .func (.func 51) #[] #[.pointer (some ⟨h, 0, none⟩)])
    (I : List Nat → World → Prop) (hI : OwnFrom w.heap.size I) (h0 : I [] w)
    (hassign : ∀ (L : Nat) (x : Nat) (W : World) (KK : Act → World → Prop), KK { tmps := (T.setIfInBounds p (.int .i64 (x : Int))).setIfInBounds q (.int .i64 (x : Int)), defers := [] } W → assign.wpIn (Fence.wide.inRound L) (10 - 1 - 1) Tryd.prog (Exit.then KK (fun _ _ _ => False)) { tmps := T.setIfInBounds p (.int .i64 (x : Int)), defers := [] } W)
    (hbody : ∀ (L : Nat) (pre : List Nat) (x : Nat) (W : World), w.heap.size ≤ L → I pre W → memP pp x = true → x < 128 → body.wpIn (Fence.wide.inRound L) (10 - 1 - 1) Tryd.prog (ownPostG w.heap.size (KeepS TabK) I (fun _ _ _ => False) (pre ++ [x]) W) { tmps := (T.setIfInBounds p (.int .i64 (x : Int))).setIfInBounds q (.int .i64 (x : Int)), defers := [] } W)
    (hdone : ∀ (D : Nat) (xs : List Nat) (W : World), w.heap.size ≤ D → Upto pp.1 pp.2 128 xs → I xs W → W.heap[D]? = some (.deferred (some [])) → Q .normal { tmps := T, defers := { target := .collected D, args := #[] } :: ds } W) :
    (Code.rangeFunc g #[p] assign body).wp Tryd.prog Q { tmps := T, defers := ds } w := by
  refine (wpIn_wide (n := 10)).1 ?_
  refine range_ok (by decide) hg (enters_of Tryd.func51 (by kernel_rfl) rfl) (all_seq (10 - 1) (by decide) h pp hp w hX hT) keepS_t (fun W L o o' hL _ _ => keepS_put (B := w.heap.size) (fun k hk => by rw [show k = _ from hk]; exact hT.lt) W L o o' hL) (fun _ => rfl)
    I (fun _ _ _ => False) hI (fun _ _ _ _ _ h _ _ => h.elim) h0 (fun pre x a' W => (memP pp x = true ∧ x < 128) ∧ a' = { tmps := (T.setIfInBounds p (.int .i64 (x : Int))).setIfInBounds q (.int .i64 (x : Int)), defers := [] }) ?_ ?_ ?_ hdone (fun D c pre W _ _ h _ => h.elim)
  · rintro pre x a' s A C row ⟨h1, e⟩ hgr hr
    exact ⟨h1, e⟩
  · intro L pre x W KK hI' hok hK'
    have h9 := hassign L x W KK (hK' _ W (KeepsFrom.refl _ _) (keepS_refl _ _) hI' ⟨hok, rfl⟩)
    simp only [pencs, List.zip_toArray, List.zip_cons_cons, List.zip_nil_right, List.foldl_toArray', List.foldl_cons, List.foldl_nil]
    exact h9
  · rintro L pre x a' W hL hI' ⟨⟨h1, h2⟩, rfl⟩
    exact hbody L pre x W hL hI' h1 h2
end Go.Proofs.YteojbnkjphghkaaDoor
