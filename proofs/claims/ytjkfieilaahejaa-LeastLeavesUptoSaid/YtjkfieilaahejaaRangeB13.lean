/-
  A range over the program's bodies, from any frame.
-/
import Derived.Test.YtjkfieilaahejaaBodySeq13
import Derived.Test.YtjkfieilaahejaaLoopD
namespace Go.Proofs.Ytjkfieilaahejaa
open Go.RowKit
set_option linter.unusedVariables false
set_option linter.unusedSimpArgs false
theorem keepS_refl (K : Nat → Prop) (W : World) : KeepS K W W := ⟨fun _ _ => rfl, Nat.le_refl _⟩
theorem row_other {A C : World} {F : Nat → Prop} {base e size n : Nat} {v : Value} {xs : List Value} (h : A.ownsRow base e size v n xs) (hf : Far F A C) (hF : ∀ k, F k → ∃ o : Obj, A.heap[k]? = some o ∧ o.isCells = false) : C.ownsRow base e size v n xs :=
  row_same h fun k hk hk2 => hf.block k hk2 fun hfk => by
    obtain ⟨o, ho, hc⟩ := hF k hfk
    rcases h.2 with ⟨rfl, _⟩ | ⟨g', cap, cur, rfl, _, hg, _⟩
    · cases hk
    · have : g' = k := Option.some.inj hk
      subst this
      rw [ho] at hg
      cases hg
      cases hc
theorem grown_F {A C : World} {row : Option Nat} (hg : A.grownBy C row) : Far (fun k => row = some k) A C := (Far.refl _ A).grown hg fun k _ e => e
theorem range_bod {g : Operand} {p q : Nat} {assign body : Code} {Q : Exit → Act → World → Prop} {T : Array Value} {ds : List Deferred} {w : World} (h : Nat) (vo po : Option Addr) (vc pc m : Nat) (l : List Sy) (em : Nat → Bool) (K : Nat → Prop) (hm : m = (placesF em 0 l).length) (hm12 : m ≤ 12) (hl : l.length ≤ 1099511627776)
    (hX : Bk w h 42 #[.slice vo l.length vc]) (hY0 : Bk w (h + 1) 33 #[.slice po m pc]) (hB : Body w (.slice vo l.length vc) l) (hP : Src w 1 (.slice po m pc) m (iv (placesF em 0 l)))
    (hK : ∀ k, K k → k < w.heap.size) (k1 : K h) (k2 : K (h + 1)) (k3 : ∀ a, vo = some a → 0 < l.length → K a.block) (k4 : ∀ a, po = some a → 0 < m → K a.block)
    (hg : Act.eval { tmps := T, defers := ds } g = .func (.func 42) #[] #[.pointer (some ⟨h + 1, 0, none⟩), .pointer (some ⟨h, 0, none⟩)])
    (I : List Value → World → Prop) (hI : OwnFrom w.heap.size I) (h0 : I [] w)
    (hassign : ∀ (L : Nat) (x : Value) (W : World) (KK : Act → World → Prop), KK { tmps := (T.setIfInBounds p x).setIfInBounds q x, defers := [] } W → assign.wpIn (Fence.wide.inRound L) (10 - 1 - 1) Try.prog (Exit.then KK (fun _ _ _ => False)) { tmps := T.setIfInBounds p x, defers := [] } W)
    (hbody : ∀ (L : Nat) (pre : List Value) (x : Value) (W : World), w.heap.size ≤ L → I pre W → BOk em l w.heap.size pre x W → body.wpIn (Fence.wide.inRound L) (10 - 1 - 1) Try.prog (ownPostG w.heap.size (KeepS K) I (fun _ _ _ => False) (pre ++ [x]) W) { tmps := (T.setIfInBounds p x).setIfInBounds q x, defers := [] } W)
    (hdone : ∀ (D : Nat) (xs : List Value) (W : World), w.heap.size ≤ D → xs.length = 2 ^ m → I xs W → W.heap[D]? = some (.deferred (some [])) → Q .normal { tmps := T, defers := { target := .collected D, args := #[] } :: ds } W) :
    (Code.rangeFunc g #[p] assign body).wp Try.prog Q { tmps := T, defers := ds } w := by
  refine (wpIn_wide (n := 10)).1 ?_
  refine range_ok (by decide) hg (enters_of Try.func42 (by kernel_rfl) rfl) (bodies_seq (10 - 1) (by decide) h vo po vc pc m l em K w hm hm12 hl hX hY0 hB hP hK k1 k2 k3 k4) keepS_t (fun W L o o' hL _ _ => keepS_put hK W L o o' hL) (fun _ => rfl)
    I (fun _ _ _ => False) hI (fun _ _ _ _ _ h _ _ => h.elim) h0 (fun pre x a' W => BOk em l w.heap.size pre x W ∧ a' = { tmps := (T.setIfInBounds p x).setIfInBounds q x, defers := [] }) ?_ ?_ ?_ hdone (fun D c pre W _ _ h _ => h.elim)
  · rintro pre x a' s A C row ⟨⟨h1, h2⟩, e⟩ hgr hr
    exact ⟨⟨h1, row_other h2 (grown_F hgr) fun k e => (hr k e).2⟩, e⟩
  · intro L pre x W KK hI' hok hK'
    have h9 := hassign L x W KK (hK' _ W (KeepsFrom.refl _ _) (keepS_refl _ _) hI' ⟨hok, rfl⟩)
    simp only [bencs, List.zip_toArray, List.zip_cons_cons, List.zip_nil_right, List.foldl_toArray', List.foldl_cons, List.foldl_nil]
    exact h9
  · rintro L pre x a' W hL hI' ⟨hok, rfl⟩
    exact hbody L pre x W hL hI' hok
theorem own_type {w : World} {B sz n r : Nat} {e : TypeId} {v : Value} {xs : List Value} (h : w.ownsRow B e sz v n xs) (hr : v.ownBlock = some r) : B ≤ r ∧ ∃ cs, Bk w r e cs := by
  rcases h.2 with ⟨rfl, _⟩ | ⟨g, cap, cur, rfl, hB, hg, _⟩
  · cases hr
  · have : g = r := Option.some.inj hr
    subst this
    exact ⟨hB, cur, hg⟩
theorem bk_type {w : World} {r : Nat} {t t' : TypeId} {cs cs' : Array Value} (h : Bk w r t cs) (h' : Bk w r t' cs') : t = t' := by
  unfold Bk at h h'
  rw [h] at h'
  cases h'
  rfl
theorem src_block {w : World} {sz m : Nat} {a : Addr} {c : Nat} {xs : List Value} (h : Src w sz (.slice (some a) m c) m xs) (h0 : 0 < xs.length) : a.block < w.heap.size := by
  rcases h.2 with ⟨e, _⟩ | ⟨a', c', e, h2⟩
  · cases e
  · cases e
    exact (h2 0 _ (List.getElem?_eq_getElem h0)).1
theorem OwnP.other {A C : World} {F : Nat → Prop} {B : Nat} {v : Value} {T : List Tr} (h : OwnP A B v T) (hf : Far F A C) (hF : ∀ k, F k → B ≤ k ∧ ∃ o : Obj, A.heap[k]? = some o ∧ o.isCells = false) : OwnP C B v T :=
  ⟨row_other h.1 hf fun k hk => (hF k hk).2, fun t ht => (h.2 t ht).far hf (fun k hk => (hF k hk).1) fun hR k hk hfk => by
    obtain ⟨_, cs, hb⟩ := own_type hR hk
    obtain ⟨o, ho, hc⟩ := (hF k hfk).2
    rw [show A.heap[k]? = _ from hb] at ho
    cases ho
    cases hc⟩
theorem bk_other {A C : World} {F : Nat → Prop} {k : Nat} {t : TypeId} {cs : Array Value} (h : Bk A k t cs) (hf : Far F A C) (hF : ∀ k, F k → ∃ o : Obj, A.heap[k]? = some o ∧ o.isCells = false) : Bk C k t cs :=
  h.far' hf fun e => by
    obtain ⟨o, ho, hc⟩ := hF k e
    rw [show A.heap[k]? = _ from h] at ho
    cases ho
    cases hc
end Go.Proofs.Ytjkfieilaahejaa
