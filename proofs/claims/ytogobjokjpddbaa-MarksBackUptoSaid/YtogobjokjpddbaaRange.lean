/-
  A loop over the program's sequence of marks, whatever its body.
-/
import Derived.Test.YtogobjokjpddbaaScanL
namespace Go.Proofs.Ytogobjokjpddbaa
open Go.RowKit Go.Shelf
set_option linter.unusedVariables false
set_option linter.unusedSimpArgs false
theorem allof_any (s : ByteArray) (w : World) : Calls Try.prog 13 #[.string s] w fun e w' =>
    e = .returned (.func (.func 27) #[] #[.pointer (some ⟨w.heap.size, 0, none⟩)]) ∧ w' = w.alloc (.cells #[.string s] 9) := by
  go_enter Try.func13, Try.ntmps13
  go_wp2_with fail
  go_ret
  exact ⟨rfl, rfl⟩
/-- The cells of a mark. -/
def mc (s : ByteArray) (x : Nat × Nat × Nat) : Array Value := #[.int .i64 ((vm s x).1 : Int), .int .i64 ((vm s x).2.1 : Int), .string (s.extract (vm s x).2.1 (vm s x).2.2)]
/-- The slots of a round: the sequence's value, the loop's variable. -/
def slots (s : ByteArray) (T : Array Value) (p q : Nat) (x : Nat × Nat × Nat) (Bx : Nat) : Act :=
  { tmps := (T.setIfInBounds p (.agg #[.int .i64 ((vm s x).1 : Int), .int .i64 ((vm s x).2.1 : Int), .string (s.extract (vm s x).2.1 (vm s x).2.2)])).setIfInBounds q (.pointer (some ⟨Bx, 0, none⟩)), defers := [] }
theorem keepB_t {b : Nat} {A B C : World} (h : KeepB b A B) (k : KeepB b B C) : KeepB b A C := Eq.trans k h
theorem all_range {g : Operand} {p q : Nat} {assign body : Code} {Q : Exit → Act → World → Prop} {T : Array Value} {ds : List Deferred} {W0 : World} (s : ByteArray) (hs : s.size ≤ 140737488351232) (bs : Nat)
    (hg : (Act.mk T ds).eval g = .func (.func 27) #[] #[.pointer (some ⟨bs, 0, none⟩)]) (hbs : Bk W0 bs 9 #[.string s])
    (I : List (Nat × Nat × Nat) → World → Prop) (Ix : Code → List (Nat × Nat × Nat) → World → Prop) (hI : OwnFrom W0.heap.size I) (hIx : ∀ c, OwnFrom W0.heap.size (Ix c)) (h0 : I [] W0) (hIs : ∀ pre W, I pre W → W0.heap.size ≤ W.heap.size ∧ bs < W.heap.size)
    (Ex : Nat → World → Prop) (hEx : ∀ b, OwnFrom W0.heap.size (fun (_ : Unit) W => Ex b W)) (hEx0 : ∀ pre x W, I pre W → Ex W.heap.size (W.alloc (.cells (mc s x) 29)))
    (hassign : ∀ (l : Nat) (x : Nat × Nat × Nat) (W : World) (K : Act → World → Prop), K (slots s T p q x W.heap.size) (W.alloc (.cells (mc s x) 29)) →
      assign.wpIn (Fence.wide.inRound l) (10 - 1 - 1) Try.prog (Exit.then K (fun _ _ _ => False)) { tmps := T.setIfInBounds p (.agg #[.int .i64 ((vm s x).1 : Int), .int .i64 ((vm s x).2.1 : Int), .string (s.extract (vm s x).2.1 (vm s x).2.2)]), defers := [] } W)
    (hbody : ∀ (l : Nat) (pre : List (Nat × Nat × Nat)) (x : Nat × Nat × Nat) (Bx : Nat) (W : World), W0.heap.size ≤ Bx → Bk W Bx 29 (mc s x) → Ex Bx W → I pre W → pre.length < (ml s).length →
      body.wpIn (Fence.wide.inRound l) (10 - 1 - 1) Try.prog (ownPostG W0.heap.size (KeepB bs) I Ix (pre ++ [x]) W) (slots s T p q x Bx) W)
    (hdone : ∀ (D : Nat) (W : World), W0.heap.size ≤ D → I (ml s) W → W.heap[D]? = some (.deferred (some [])) → Q .normal { tmps := T, defers := { target := .collected D, args := #[] } :: ds } W)
    (hstop : ∀ (D : Nat) (c : Code) (pre : List (Nat × Nat × Nat)) (W : World), W0.heap.size ≤ D → pre <+: ml s → Ix c pre W → W.heap[D]? = some (.deferred (some [])) → c.wp Try.prog Q { tmps := T, defers := { target := .collected D, args := #[] } :: ds } W) :
    (Code.rangeFunc g #[p] assign body).wp Try.prog Q { tmps := T, defers := ds } W0 := by
  refine (wpIn_wide (n := 10)).1 ?_
  refine wpIn_rangeFunc_ownH rfl (by decide) (gf := 27) (lb := #[.pointer (some ⟨bs, 0, none⟩)]) hg trivial (enters_of Try.func27 (by kernel_rfl) rfl)
    (all_stops (10 - 1) (by decide) s hs bs W0 hbs) keepB_t ?keep (Below.refl _ _) (fun _ => rfl)
    I Ix hI hIx h0
    (fun x a' W => ∃ Bx, W0.heap.size ≤ Bx ∧ Bk W Bx 29 (mc s x) ∧ Ex Bx W ∧ a' = slots s T p q x Bx)
    (fun x a' s A B row hs hg hr => by obtain ⟨Bx, h1, h2, h2', h3⟩ := hs; exact ⟨Bx, h1, h2.kept hg hr, hEx Bx () A B row h2' hg hr, h3⟩) ?assign ?body ?done ?stop
  case keep =>
    intro W l o o' hl h ho hw
    have hb := hbs.lt
    exact World.putObj_heap_other (by omega)
  case assign =>
    intro l pre x W K hI' hK
    have e : ((#[p] : Array Tmp).zip (encM s x)).foldl (fun t (p, v) => t.setIfInBounds p v) T = T.setIfInBounds p (.agg #[.int .i64 ((vm s x).1 : Int), .int .i64 ((vm s x).2.1 : Int), .string (s.extract (vm s x).2.1 (vm s x).2.2)]) := by simp [encM, mv]
    show assign.wpIn _ _ _ _ { tmps := ((#[p] : Array Tmp).zip (encM s x)).foldl (fun t (p, v) => t.setIfInBounds p v) T, defers := [] } W
    rw [e]
    obtain ⟨hz, hz'⟩ := hIs pre W hI'
    refine hassign l x W K (hK _ _ ((KeepsOthers.alloc _ _).from _) (heap_alloc_old W _ hz') ?_ ⟨W.heap.size, hz, Bk.new rfl, hEx0 pre x W hI', rfl⟩)
    exact hI _ _ _ none hI' (World.grownBy_alloc W _ none) (fun r e => by cases e)
  case body =>
    rintro l pre x a' W _ _ hI ⟨Bx, h1, h2, h2', rfl⟩ hlt
    exact hbody l pre x Bx W h1 h2 h2' hI hlt
  case done =>
    intro D xs W hD hxs hI hK
    have hx : xs = ml s := hxs
    subst hx
    exact hdone D W hD hI hK
  case stop =>
    intro D c pre W hD hS hX hK
    exact wpIn_wide.2 (hstop D c pre W hD hS hX hK)
end Go.Proofs.Ytogobjokjpddbaa
