/-
  What the library's number readers want of memory, out of what the row lists.
-/
import Derived.Test.YtjmgheogpglpnaaDoorTabs30
import Derived.Test.YtjmgheogpglpnaaDoorNum30
import Derived.Test.YtjmgheogpglpnaaDoorOwn30
import Derived.Lib.ItoaMem
namespace Go.Proofs.YtjmgheogpglpnaaDoor
open Go.ChangeShapes Go.WideShapes Go.ChangeAt Go.RowKit
set_option linter.unusedVariables false
set_option linter.unusedSimpArgs false
/-- A variable of type error holds an error or none. -/
def ErrAt (w : World) (g : Nat) : Prop := ∃ ev, w.cell? ⟨g, 0, none⟩ = some ev ∧ (ev = .nilIface ∨ ∃ te pe, ev = .iface te pe)
/-- The table of the powers of ten and the two errors, as the library's number readers want them. -/
def Lw (w : World) : Prop := Lib.TabIs Tryd.prog w "internal/strconv.uint64pow10" .u64 Lib.pow10Tab ∧ ErrAt w 2 ∧ ErrAt w 3
theorem powVar : Tryd.prog.globalNamed "internal/strconv.uint64pow10" = some 1 := by kernel_rfl
theorem Lw.far {w w' : World} {F : Nat → Prop} (h : Lw w) (hf : Far F w w') (hF : ∀ k, k < 4 → ¬ F k) : Lw w' := by
  obtain ⟨h1, ⟨e2, h2, h2'⟩, ⟨e3, h3, h3'⟩⟩ := h
  have b2 := World.block_lt_of_cell? w _ h2
  have b3 := World.block_lt_of_cell? w _ h3
  refine ⟨?_, ⟨e2, (cell_eq (hf.block 2 b2 (hF 2 (by decide)))).trans h2, h2'⟩, ⟨e3, (cell_eq (hf.block 3 b3 (hF 3 (by decide)))).trans h3, h3'⟩⟩
  unfold Lib.TabIs World.var? at *
  rw [powVar] at *
  simp only [Option.bind_some] at *
  have b1 : 1 < w.heap.size := Nat.lt_trans (by decide) b2
  rw [hf.block 1 b1 (hF 1 (by decide))]
  exact h1
theorem laid_tail {x : String × DataW Unit} {rest : List (String × DataW Unit)} {W : World} (h : laidMet Tryd.prog (x :: rest) W) : laidMet Tryd.prog rest W := by
  obtain ⟨n, d⟩ := x
  obtain ⟨ps, ⟨g, t, cs, fuel, p, q, _, _, _, _, hq, rfl⟩, hnd, hc⟩ := h
  exact ⟨q, hq, (List.nodup_append.1 hnd).2.1, fun b off hm => hc b off (List.mem_append_right _ hm)⟩
theorem iface_cells {P : Program} {W : World} {t : TypeId} {fuel : Nat} {cs : List Value} {x : DataW Unit × List MemPlace} {m : _} (ht : P.underlying t = some (.interface m)) (h : DataW.trod (fun _ => ()) P W 0 (fun _ => true) false fuel t cs = some x) :
    ∃ v, cs = [v] ∧ (v = .nilIface ∨ ∃ te pe, v = .iface te pe) := by
  cases fuel with
  | zero => simp [DataW.trod] at h
  | succ n =>
    unfold DataW.trod at h
    rw [ht] at h
    match cs, h with
    | [], h => simp at h
    | [v], h => cases v <;> first | exact ⟨_, rfl, .inl rfl⟩ | exact ⟨_, rfl, .inr ⟨_, _, rfl⟩⟩ | simp at h
    | a :: b :: r, h => simp at h
theorem err_of_head {name : String} {d : DataW Unit} {rest : List (String × DataW Unit)} {W : World} {g t : Nat} {m : _} (hg : Tryd.prog.globalNamed name = some g) (hty : (Tryd.prog.globals[g]?).map (·.type) = some t) (ht : Tryd.prog.underlying t = some (.interface m))
    (h : laidMet Tryd.prog ((name, d) :: rest) W) : ErrAt W g := by
  obtain ⟨ps, ⟨g', t', cs, fuel, p, q, hg', ht', hvar, hd, _, _⟩, _⟩ := h
  obtain rfl := Option.some.inj (hg.symm.trans hg')
  obtain rfl := Option.some.inj (hty.symm.trans ht')
  obtain ⟨v, hv, hi⟩ := iface_cells ht hd
  refine ⟨v, ?_, hi⟩
  have := World.var?_cell hg hvar 0
  rw [this]
  have : cs = #[v] := by cases cs; simp_all
  rw [this]
  rfl
theorem pow_datum : (Rows.laid_internal_strconv_uint64pow10 : DataW Unit) = Lib.tabData .u64 Lib.pow10Tab := by kernel_rfl
theorem errType : ∃ m, Tryd.prog.underlying 81 = some (.interface m) := ⟨_, Tryd.underlying81⟩
theorem laid_of {W : World} (h : laidMetH Tryd.prog laidList W) : Lw W := by
  rw [MakeChecks.laidMetH_plain _ _ _ (by kernel_rfl)] at h
  unfold laidList at h
  obtain ⟨m, hm⟩ := errType
  have h2 := laid_tail (laid_tail h)
  have h3 := laid_tail h2
  have h4 := laid_tail h3
  rw [pow_datum] at h2
  exact ⟨Lib.tabIs_of_head (g := 1) (by kernel_rfl) (by kernel_rfl) (t := 111) (e := 101) (n := 20) (k := .u64) (by kernel_rfl) (by kernel_rfl) (by kernel_rfl) (by kernel_rfl) h2,
    err_of_head (g := 2) (t := 81) (by kernel_rfl) (by kernel_rfl) hm h4, err_of_head (g := 3) (t := 81) (by kernel_rfl) (by kernel_rfl) hm h3⟩
theorem text_size {s : ByteArray} (h : s.size ≤ maxLen) (hs : s.size ≤ 140737488351232) : s.data.toList.length ≤ 140737488351232 := by simpa using hs
end Go.Proofs.YtjmgheogpglpnaaDoor
