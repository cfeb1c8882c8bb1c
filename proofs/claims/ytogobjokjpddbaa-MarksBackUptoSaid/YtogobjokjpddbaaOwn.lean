/-
  Lists that a call makes: what stays, what is new; marks as memory has them.
-/
import Derived.Test.YtogobjokjpddbaaAll
import Derived.ProofKit
import Derived.OwnWalk
import Derived.Laws.AppendOwn
import Derived.OwnWalkIn
import Derived.Deep.AppendLies
namespace Go.Proofs.Ytogobjokjpddbaa
open Go.RowKit
set_option linter.unusedVariables false
set_option linter.unusedSimpArgs false
theorem bl_loop (bs : ByteArray) : ∀ (k i : Nat) (r : List UInt8), bs.size - i = k → ByteArray.toList.loop bs i r = r.reverse ++ bs.data.toList.drop i
  | 0, i, r, h => by
    unfold ByteArray.toList.loop
    rw [if_neg (by omega), List.drop_eq_nil_of_le (by simp; have : bs.data.size = bs.size := rfl; omega)]
    simp
  | k + 1, i, r, h => by
    unfold ByteArray.toList.loop
    rw [if_pos (by omega), bl_loop bs k (i + 1) _ (by omega)]
    have hi : i < bs.data.toList.length := by simp; have : bs.data.size = bs.size := rfl; omega
    rw [List.drop_eq_getElem_cons hi]
    have : bs.get! i = bs.data.toList[i] := by
      have hi' : i < bs.data.size := by simpa using hi
      show bs.data[i]! = _
      rw [getElem!_pos bs.data i hi']; simp
    rw [List.reverse_cons, List.append_assoc, this]
    rfl
theorem bl_data (bs : ByteArray) : bs.toList = bs.data.toList := by
  unfold ByteArray.toList
  rw [bl_loop bs _ 0 [] rfl]; simp
theorem str_ne {a b : ByteArray} (h : a ≠ b) : (a.toList == b.toList) = false := by
  rw [beq_eq_false_iff_ne, bl_data, bl_data]
  intro e
  apply h
  apply ByteArray.ext
  exact Array.toList_inj.1 e
theorem own_stay {w w' : World} {base n : Nat} {v : Value} {e : TypeId} {size B : Nat} {xs : List Value} (h : w.ownsRow base e size v n xs) (hb : Below B w w') (hB : w.heap.size ≤ B) : w'.ownsRow base e size v n xs := by
  refine ⟨h.1, ?_⟩
  rcases h.2 with hn | ⟨g, cap, cur, rfl, hbb, hh, rest⟩
  · exact .inl hn
  · have hg := (Array.getElem?_eq_some_iff.1 hh).1
    exact .inr ⟨g, cap, cur, rfl, hbb, (hb.block g (by omega)).trans hh, rest⟩
theorem own_base {w : World} {base base' n : Nat} {v : Value} {e : TypeId} {size : Nat} {xs : List Value} (h : w.ownsRow base e size v n xs) (hb : base' ≤ base) : w.ownsRow base' e size v n xs := by
  refine ⟨h.1, ?_⟩
  rcases h.2 with hn | ⟨g, cap, cur, rfl, hbb, hh, rest⟩
  · exact .inl hn
  · exact .inr ⟨g, cap, cur, rfl, by omega, hh, rest⟩
theorem ret2 {a b a' b' : Value} (h1 : a = a') (h2 : b = b') : Ending.returned (.tuple #[a, b]) = .returned (.tuple #[a', b']) := by rw [h1, h2]
theorem ret3 {a b c a' b' c' : Value} (h1 : a = a') (h2 : b = b') (h3 : c = c') : Ending.returned (.tuple #[a, b, c]) = .returned (.tuple #[a', b', c']) := by rw [h1, h2, h3]
theorem vint {a b : Int} (h : a = b) : Value.int .i64 a = .int .i64 b := by rw [h]
theorem new_cell (w : World) (cs : Array Value) (t : TypeId) (b i : Nat) (hb : b = w.heap.size) : (w.alloc (.cells cs t)).cell? ⟨b, i, none⟩ = cs[i]? := by
  subst hb; exact cell_of_row _ _ _ _ _ _ (heap_alloc_new w _)
theorem add_none (b off n : Nat) : (⟨b, off, none⟩ : Addr).add n = ⟨b, off + n, none⟩ := by
  unfold Addr.add; split <;> simp_all
theorem bcell {W w1 : World} {B : Nat} (hb : Below B W w1) : (∀ b o, b < B → w1.cell? ⟨b, o, none⟩ = W.cell? ⟨b, o, none⟩) ∧ (∀ b o, b < B → w1.frozen? ⟨b, o, none⟩ = W.frozen? ⟨b, o, none⟩) :=
  ⟨fun b o h => hb.cell (p := ⟨b, o, none⟩) h, fun b o h => hb.frozen (p := ⟨b, o, none⟩) h⟩
/-- A list of marks as memory has it: three cells a mark. -/
def flatM : List (Nat × Nat × ByteArray) → List Value
  | [] => []
  | x :: l => .int .i64 (x.1 : Int) :: .int .i64 (x.2.1 : Int) :: .string x.2.2 :: flatM l
theorem flatM_append : ∀ l m, flatM (l ++ m) = flatM l ++ flatM m
  | [], m => rfl
  | x :: l, m => by simp [flatM, flatM_append l m]
theorem flatM_length : ∀ l, (flatM l).length = l.length * 3
  | [] => rfl
  | x :: l => by simp [flatM, flatM_length l]; omega
theorem flatM_at : ∀ (l : List (Nat × Nat × ByteArray)) (m : Nat) (x : Nat × Nat × ByteArray), l[m]? = some x → (flatM l)[m * 3]? = some (.int .i64 (x.1 : Int)) ∧ (flatM l)[m * 3 + 1]? = some (.int .i64 (x.2.1 : Int)) ∧ (flatM l)[m * 3 + 2]? = some (.string x.2.2)
  | [], _, _, h => by simp at h
  | y :: l, 0, x, h => by simp at h; subst h; exact ⟨rfl, rfl, rfl⟩
  | y :: l, m + 1, x, h => by
    have ih := flatM_at l m x (by simpa using h)
    rw [show (m + 1) * 3 = m * 3 + 1 + 1 + 1 by omega]
    exact ih
/-- The marks with their bytes. -/
def txt (s : ByteArray) (l : List (Nat × Nat × Nat)) : List (Nat × Nat × ByteArray) := l.map fun x => (x.1, x.2.1, s.extract x.2.1 x.2.2)
theorem txt_length (s : ByteArray) (l : List (Nat × Nat × Nat)) : (txt s l).length = l.length := by simp [txt]
theorem txt_append (s : ByteArray) (l m : List (Nat × Nat × Nat)) : txt s (l ++ m) = txt s l ++ txt s m := by simp [txt]
/-- v is a slice of the call's own that holds these marks. -/
def OwnM (base : Nat) (w : World) (v : Value) (l : List (Nat × Nat × ByteArray)) : Prop := w.ownsRow base 29 3 v l.length (flatM l)
theorem OwnM.row {base : Nat} {w : World} {v : Value} {l : List (Nat × Nat × ByteArray)} (h : OwnM base w v l) : w.ownsRow base 29 3 v l.length (flatM l) := h
theorem markInfo : (Try.prog.info? 29).map (fun i => (i.zero, i.size, i.bytes)) = some (some (.agg #[.int .i64 0, .int .i64 0, .string ⟨#[]⟩]), 3, 32) := by kernel_rfl
theorem markType : Try.prog.underlying 22 = some (.slice 29) := by kernel_rfl
theorem markZero : (Value.agg #[.int .i64 0, .int .i64 0, .string ⟨#[]⟩]).cells.size = 3 := rfl
end Go.Proofs.Ytogobjokjpddbaa
