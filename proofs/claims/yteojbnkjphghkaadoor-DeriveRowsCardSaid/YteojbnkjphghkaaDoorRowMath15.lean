/-
  A word within a word; no word is shorter than the shortest.
-/
import Derived.Test.YteojbnkjphghkaaDoorKeep15
import Derived.Test.YteojbnkjphghkaaDoorShort13
import Derived.Laws.AppendOwnNone
import Derived.Maps.AppendAt
namespace Go.Proofs.YteojbnkjphghkaaDoor
open Go.RowKit
set_option linter.unusedVariables false
set_option linter.unusedSimpArgs false
theorem der_within {P : List Hb} {W : List Int} (X Y : List Int) {h : Int} {i j : Nat} (hd : Der P W h i j) : Der P (X ++ W ++ Y) h (X.length + i) (X.length + j) := by
  induction hd with
  | eps hp hi => exact .eps hp (by simp only [List.length_append]; omega)
  | @one h n b i hp hw =>
    rw [show X.length + (i + 1) = X.length + i + 1 by omega]
    refine .one hp ?_
    have hi := (List.getElem?_eq_some_iff.1 hw).1
    rw [List.append_assoc, List.getElem?_append_right (by omega), show X.length + i - X.length = i by omega, List.getElem?_append_left hi]
    exact hw
  | two hp _ _ h1 h2 => exact .two hp h1 h2
theorem der_both {P : List Hb} {A B : List Int} {h x y : Int} {b d : Bool} (hp : (h, [(b, x), (d, y)]) ∈ P) (h1 : Der P A x 0 A.length) (h2 : Der P B y 0 B.length) : Der P (A ++ B) h 0 (A ++ B).length := by
  have a1 := der_within [] B h1
  have a2 := der_within A [] h2
  simp only [List.nil_append, List.length_nil, Nat.zero_add, List.append_nil, Nat.add_zero] at a1 a2
  rw [List.length_append]
  exact .two hp a1 a2
theorem der_short {S : Int} {T : List Tr} {s : Nat → Int} (hs : ClosedS T s) (hok : WeakP S T) {W : List Int} {h : Int} {i j : Nat} (hd : Der (T.map pl) W h i j) : 0 ≤ s h.toNat ∧ s h.toNat ≤ ((j - i : Nat) : Int) := by
  have key : ∀ {h l}, (h, l) ∈ T.map pl → lei (s h.toNat) (long s l 0) ∧ weakB l = true := fun hp => by
    obtain ⟨t, ht, e⟩ := List.mem_map.1 hp
    have h1 := congrArg Prod.fst e
    have h2 := congrArg Prod.snd e
    simp only [pl] at h1 h2
    subst h1 h2
    exact ⟨hs t ht, hok.2 t ht⟩
  induction hd with
  | eps hp hi =>
    obtain ⟨h1, _⟩ := key hp
    unfold long lei at h1
    omega
  | @one h n b i hp hw =>
    obtain ⟨h1, h2⟩ := key hp
    have hb : b = true := by simpa [weakB, shortB, pairB] using h2
    subst hb
    simp [long, lei, cap] at h1
    omega
  | @two h a c b d i k j hp d1 d2 k1 k2 =>
    obtain ⟨h1, h2⟩ := key hp
    have hbd : b = false ∧ d = false := by simpa [weakB, shortB, pairB] using h2
    obtain ⟨rfl, rfl⟩ := hbd
    have m1 := der_in d1
    have m2 := der_in d2
    simp only [long, Bool.false_eq_true, if_false, Int.zero_add] at h1
    rw [if_neg (by omega), if_neg (by omega)] at h1
    have c1 := cap_rng k1.1
    have c2 := cap_rng (x := cap (s a.toNat) + s c.toNat) (by omega)
    unfold lei at h1
    omega
theorem grown_refl (w : World) (row : Option Nat) : w.grownBy w row := ⟨rfl, rfl, rfl, Nat.le_refl _, fun _ _ _ => rfl⟩
/-- Append of a list, nil or not. -/
theorem wpList_append_src {P : Program} {w : World} {ops : Array Oper} {rest : List Oper} {o : Oper} {a : Act} {Q : Exit → Act → World → Prop} (hgd : o.guard = none) (s x : Operand) (t : TypeId)
    (ho : o.op = .call { callee := .builtin .append, args := #[s, x], argTypes := #[t, t] })
    (base : Nat) (e : TypeId) (i : TypeInfo) (z : Value) (size bytes : Nat) (ht : P.underlying t = some (.slice e)) (hi : P.info? e = some i) (hz : i.zero = some z)
    (hsize : i.size = size) (hby : i.bytes = bytes) (hzs : z.cells.size = size) (hsz : 0 < size)
    (v : Value) (n : Nat) (xs : List Value) (hs : a.eval s = v) (hown : w.ownsRow base e size v n xs)
    (xv : Value) (m : Nat) (news : List Value) (hx : a.eval x = xv) (hsrc : Src w size xv m news) (h1 : ∀ u ∈ news, u.oneCell' = true)
    (h63 : n + m ≤ maxLen) (hbytes : (n + m) * bytes ≤ 140737488355328) (hbase : base ≤ w.heap.size)
    (h : ∀ v' w', w'.ownsRow base e size v' (n + m) (xs ++ news) → w.grownBy w' v.ownBlock → wpList P ops Q rest (a.put o.dst v') w') :
    wpList P ops Q (o :: rest) a w := by
  obtain ⟨hl, ⟨e1, e2⟩ | ⟨ad, c, e1, hc⟩⟩ := hsrc
  · subst e2
    have hn : news = [] := List.length_eq_zero_iff.1 (by rw [hl, Nat.zero_mul])
    subst hn
    refine wpList_append_own_none hgd s x t ho base e i size ht hi v n xs hs hown (hx.trans e1) (h v w ?_ (grown_refl _ _))
    rw [List.append_nil, Nat.add_zero]
    exact hown
  · exact wpList_append_own_at w hgd s x t ho base e i z size bytes ht hi hz hsize hby hzs hsz v n xs hs hown ad m c news (hx.trans e1) hl (fun j u hu => (hc j u hu).2) h1 h63 hbytes hbase fun v' w' q1 q2 _ _ => h v' w' q1 q2
end Go.Proofs.YteojbnkjphghkaaDoor
