/-
  Abs2: Push, Pop, At, Frames, Pops over the whole stack.
-/
import Derived.Test.YthpkbeooplpinaaAbs
import Derived.Test.YthpkbeooplpinaaSeen
import Derived.Test.YthpkbeooplpinaaPushNew
import Derived.Test.YthpkbeooplpinaaPopNew
namespace Go.Proofs.Ythpkbeooplpinaa
open Go.RowKit
set_option linter.unusedVariables false
set_option linter.unusedSimpArgs false
theorem push_bad_stk {w : World} {B K : Nat} {l : List Nd} {F : Nat → Prop} (h : Stk w B K l F) (hK : K < 1000000) {i x y : Int} (hi : ¬ (0 ≤ i ∧ i < l.length) ∨ ¬ (0 ≤ x ∧ x < l.length)) :
    Calls Try.prog 16 #[.pointer (some ⟨B, 0, none⟩), .int .i64 i, .agg #[.int .i64 x, .int .i64 y]] w fun e w' => e = .returned (.tuple #[.slice none 0 0, .bool false, .int .i64 4]) ∧ Far (fun _ => False) w w' := by
  obtain ⟨m1, m2, m3, sl, L, c1, c2, c3, hC, rfl, rfl⟩ := h
  obtain ⟨ao, cap, rfl⟩ := parts hC
  have hm := hC.many
  exact push_bad w i x y B m1 m2 m3 L.length cap ao (by omega) hC.top (by simpa using hi)
theorem push_seen_stk {w : World} {B K : Nat} {l : List Nd} {F : Nat → Prop} (h : Stk w B K l F) (hK : K < 999999) {i x : Nat} {y : Int} {r : Nd} (hr : l[i]? = some r) (hx : x < l.length) (hy : Fit y) (hm : ((x : Int), y) ∈ r.fs) :
    Calls Try.prog 16 #[.pointer (some ⟨B, 0, none⟩), .int .i64 i, .agg #[.int .i64 x, .int .i64 y]] w fun e w' => e = .returned (.tuple #[.slice none 0 0, .bool false, .int .i64 0]) ∧ ∃ F', Stk w' B (K + 1) l F' ∧ Moves w w' F F' := by
  obtain ⟨m1, m2, m3, sl, L, c1, c2, c3, hC, rfl, rfl⟩ := h
  obtain ⟨ao, cap, rfl⟩ := parts hC
  have hmany := hC.many
  have hil : i < L.length := by have := (List.getElem?_eq_some_iff.1 hr).1; simpa using this
  obtain ⟨c, hc, hc1, hcK⟩ := (hC.told.framed i r hr x y).1 hm
  refine (push_seen w i x y c B m1 m2 m3 L.length cap K ao c2 (by omega) (by omega) hC.top hil (by simpa using hx) hy hC.t2 hc hc1 (by omega)).mono ?_
  rintro e w' ⟨rfl, hT, hf⟩
  have hC' := hC.mono (Nat.le_succ K)
  refine ⟨rfl, foot B m1 m2 m3 (.slice ao L.length cap) L, ⟨m1, m2, m3, .slice ao L.length cap, L, c1, putAt c2 (tr i x y) (c + 1), c3, ?_, rfl, rfl⟩, hf.mono fun k _ e => by subst e; exact .inr (.inr (.inl rfl)), fun _ h => .inl h⟩
  refine ⟨hC.top.far' hf (fun e => hC.t2.notCells (by rw [← e]; exact hC.top)), row_same hC.row fun k hk hlt => hf.block k hlt fun e => tally_ne hC.t2 hC.row (by rw [← e]; exact hk),
    fun j s hs => row_same (hC.frames j s hs) fun k hk hlt => hf.block k hlt fun e => tally_ne hC.t2 (hC.frames j s hs) (by rw [← e]; exact hk),
    fun j s hs => row_same (hC.pops j s hs) fun k hk hlt => hf.block k hlt fun e => tally_ne hC.t2 (hC.pops j s hs) (by rw [← e]; exact hk),
    hC.apartF, hC.apartP, hC'.t1.same (hf.block _ hC.t1.lt hC.m12), hT, hC'.t3.same (hf.block _ hC.t3.lt fun e => hC.m23 e.symm), hC.m12, hC.m13, hC.m23, hC.told.frameSeen hr x y (c + 1) hm (by omega) (by omega), hC'.many, hC'.long⟩
theorem push_new_stk {w : World} {B K : Nat} {l : List Nd} {F : Nat → Prop} (h : Stk w B K l F) (hK : K < 1000000) {i x : Nat} {y : Int} {r : Nd} (hr : l[i]? = some r) (hx : x < l.length) (hy : Fit y) (hm : ((x : Int), y) ∉ r.fs) :
    Calls Try.prog 16 #[.pointer (some ⟨B, 0, none⟩), .int .i64 i, .agg #[.int .i64 x, .int .i64 y]] w fun e w' => ∃ g, e = .returned (.tuple #[.slice (some ⟨g, 0, none⟩) r.ps.length r.ps.length, .bool true, .int .i64 0]) ∧ w.heap.size ≤ g ∧
      w'.ownsRow w.heap.size 3 1 (.slice (some ⟨g, 0, none⟩) r.ps.length r.ps.length) r.ps.length (pcells r.ps) ∧ ∃ F', ¬ F' g ∧ Stk w' B (K + 1) (l.set i ⟨r.mark, r.place, r.fs ++ [((x : Int), y)], r.ps⟩) F' ∧ Moves w w' F F' := by
  obtain ⟨m1, m2, m3, sl, L, c1, c2, c3, hC, rfl, rfl⟩ := h
  obtain ⟨s, hs, rfl⟩ := get_map hr
  refine (push_new w i x y B K m1 m2 m3 sl L c1 c2 c3 s hK hC hs (by simpa using hx) hy hm).mono ?_
  rintro e w' ⟨g, fv, rfl, hown, hg', hC', hfv, hf⟩
  refine ⟨g, rfl, (hown.lt g rfl).1, hown, foot B m1 m2 m3 sl _, hg', ⟨m1, m2, m3, sl, _, c1, _, c3, hC', by simp, rfl⟩, hf.mono ?_, foot_set hs hfv (.inl rfl)⟩
  rintro k _ (e | e | e)
  · exact .inr (.inr (.inl e))
  · exact .inr (.inr (.inr (.inr (.inl e))))
  · exact .inr (.inr (.inr (.inr (.inr ⟨s, List.mem_of_getElem? hs, .inl e⟩))))
theorem pop_bad_stk {w : World} {B K : Nat} {l : List Nd} {F : Nat → Prop} (h : Stk w B K l F) (hK : K < 1000000) {i y : Int} (hi : ¬ (0 ≤ i ∧ i < l.length)) :
    Calls Try.prog 17 #[.pointer (some ⟨B, 0, none⟩), .int .i64 i, .int .i64 y] w fun e w' => e = .returned (.tuple #[.slice none 0 0, .bool false, .int .i64 4]) ∧ Far (fun _ => False) w w' := by
  obtain ⟨m1, m2, m3, sl, L, c1, c2, c3, hC, rfl, rfl⟩ := h
  obtain ⟨ao, cap, rfl⟩ := parts hC
  have hm := hC.many
  exact pop_bad w i y B m1 m2 m3 L.length cap ao (by omega) hC.top (by simpa using hi)
theorem pop_seen_stk {w : World} {B K : Nat} {l : List Nd} {F : Nat → Prop} (h : Stk w B K l F) (hK : K < 999999) {i : Nat} {y : Int} {r : Nd} (hr : l[i]? = some r) (hy : Fit y) (hm : y ∈ r.ps) :
    Calls Try.prog 17 #[.pointer (some ⟨B, 0, none⟩), .int .i64 i, .int .i64 y] w fun e w' => e = .returned (.tuple #[.slice none 0 0, .bool false, .int .i64 0]) ∧ ∃ F', Stk w' B (K + 1) l F' ∧ Moves w w' F F' := by
  obtain ⟨m1, m2, m3, sl, L, c1, c2, c3, hC, rfl, rfl⟩ := h
  obtain ⟨ao, cap, rfl⟩ := parts hC
  have hmany := hC.many
  have hil : i < L.length := by have := (List.getElem?_eq_some_iff.1 hr).1; simpa using this
  obtain ⟨c, hc, hc1, hcK⟩ := (hC.told.popped i r hr y).1 hm
  refine (pop_seen w i y c B m1 m2 m3 L.length cap K ao c3 (by omega) (by omega) hC.top hil hy hC.t3 hc hc1 (by omega)).mono ?_
  rintro e w' ⟨rfl, hT, hf⟩
  have hC' := hC.mono (Nat.le_succ K)
  refine ⟨rfl, foot B m1 m2 m3 (.slice ao L.length cap) L, ⟨m1, m2, m3, .slice ao L.length cap, L, c1, c2, putAt c3 (sp i y) (c + 1), ?_, rfl, rfl⟩, hf.mono fun k _ e => by subst e; exact .inr (.inr (.inr (.inl rfl))), fun _ h => .inl h⟩
  refine ⟨hC.top.far' hf (fun e => hC.t3.notCells (by rw [← e]; exact hC.top)), row_same hC.row fun k hk hlt => hf.block k hlt fun e => tally_ne hC.t3 hC.row (by rw [← e]; exact hk),
    fun j s hs => row_same (hC.frames j s hs) fun k hk hlt => hf.block k hlt fun e => tally_ne hC.t3 (hC.frames j s hs) (by rw [← e]; exact hk),
    fun j s hs => row_same (hC.pops j s hs) fun k hk hlt => hf.block k hlt fun e => tally_ne hC.t3 (hC.pops j s hs) (by rw [← e]; exact hk),
    hC.apartF, hC.apartP, hC'.t1.same (hf.block _ hC.t1.lt hC.m13), hC'.t2.same (hf.block _ hC.t2.lt hC.m23), hT, hC.m12, hC.m13, hC.m23, hC.told.popSeen hr y (c + 1) hm (by omega) (by omega), hC'.many, hC'.long⟩
theorem pop_new_stk {w : World} {B K : Nat} {l : List Nd} {F : Nat → Prop} (h : Stk w B K l F) (hK : K < 1000000) {i : Nat} {y : Int} {r : Nd} (hr : l[i]? = some r) (hy : Fit y) (hm : y ∉ r.ps) :
    Calls Try.prog 17 #[.pointer (some ⟨B, 0, none⟩), .int .i64 i, .int .i64 y] w fun e w' => ∃ g, e = .returned (.tuple #[.slice (some ⟨g, 0, none⟩) r.fs.length r.fs.length, .bool true, .int .i64 0]) ∧ w.heap.size ≤ g ∧
      w'.ownsRow w.heap.size 38 2 (.slice (some ⟨g, 0, none⟩) r.fs.length r.fs.length) r.fs.length (fcells r.fs) ∧ ∃ F', ¬ F' g ∧ Stk w' B (K + 1) (l.set i ⟨r.mark, r.place, r.fs, r.ps ++ [y]⟩) F' ∧ Moves w w' F F' := by
  obtain ⟨m1, m2, m3, sl, L, c1, c2, c3, hC, rfl, rfl⟩ := h
  obtain ⟨s, hs, rfl⟩ := get_map hr
  refine (pop_new w i y B K m1 m2 m3 sl L c1 c2 c3 s hK hC hs hy hm).mono ?_
  rintro e w' ⟨g, pv, rfl, hown, hg', hC', hpv, hf⟩
  refine ⟨g, rfl, (hown.lt g rfl).1, hown, foot B m1 m2 m3 sl _, hg', ⟨m1, m2, m3, sl, _, c1, c2, _, hC', by simp, rfl⟩, hf.mono ?_, foot_set hs (.inl rfl) hpv⟩
  rintro k _ (e | e | e)
  · exact .inr (.inr (.inr (.inl e)))
  · exact .inr (.inr (.inr (.inr (.inl e))))
  · exact .inr (.inr (.inr (.inr (.inr ⟨s, List.mem_of_getElem? hs, .inr e⟩))))
theorem parts_some {w : World} {B K m1 m2 m3 : Nat} {sl : Value} {L : List Rw} {c1 c2 c3 : Value → Option Int} (hC : Core w B K m1 m2 m3 sl L c1 c2 c3) {i : Nat} {s : Rw} (hs : L[i]? = some s) : ∃ g cap, sl = .slice (some ⟨g, 0, none⟩) L.length cap := by
  have hi : i < L.length := (List.getElem?_eq_some_iff.1 hs).1
  obtain ⟨g, cap, h, _⟩ := hC.row.form (by omega)
  exact ⟨g, cap, h⟩
theorem len_stk {w : World} {B K : Nat} {l : List Nd} {F : Nat → Prop} (h : Stk w B K l F) : Calls Try.prog 15 #[.pointer (some ⟨B, 0, none⟩)] w fun e w' => e = .returned (.int .i64 l.length) ∧ w = w' := by
  obtain ⟨m1, m2, m3, sl, L, c1, c2, c3, hC, rfl, rfl⟩ := h
  obtain ⟨ao, cap, rfl⟩ := parts hC
  simpa using len_any w B m1 m2 m3 L.length cap ao hC.top
theorem at_bad_stk {w : World} {B K : Nat} {l : List Nd} {F : Nat → Prop} (h : Stk w B K l F) (hK : K < 1000000) {i : Int} (hi : ¬ (0 ≤ i ∧ i < l.length)) :
    Calls Try.prog 18 #[.pointer (some ⟨B, 0, none⟩), .int .i64 i] w fun e w' => e = .returned (.tuple #[.int .i64 0, .int .i64 0, .int .i64 4]) ∧ Far (fun _ => False) w w' := by
  obtain ⟨m1, m2, m3, sl, L, c1, c2, c3, hC, rfl, rfl⟩ := h
  obtain ⟨ao, cap, rfl⟩ := parts hC
  have hm := hC.many
  exact at_bad w i B m1 m2 m3 L.length cap ao (by omega) hC.top (by simpa using hi)
theorem at_ok_stk {w : World} {B K : Nat} {l : List Nd} {F : Nat → Prop} (h : Stk w B K l F) (hK : K < 1000000) {i : Nat} {r : Nd} (hr : l[i]? = some r) :
    Calls Try.prog 18 #[.pointer (some ⟨B, 0, none⟩), .int .i64 i] w fun e w' => e = .returned (.tuple #[.int .i64 r.mark, .int .i64 r.place, .int .i64 0]) ∧ Far (fun _ => False) w w' := by
  obtain ⟨m1, m2, m3, sl, L, c1, c2, c3, hC, rfl, rfl⟩ := h
  obtain ⟨s, hs, rfl⟩ := get_map hr
  obtain ⟨g, cap, rfl⟩ := parts_some hC hs
  have hm := hC.many
  have hi : i < L.length := (List.getElem?_eq_some_iff.1 hs).1
  exact at_ok w i s.nd.mark s.nd.place B m1 m2 m3 L.length g cap (by omega) hC.top hi (by rw [hC.row.cellAt _ (by omega)]; exact (nc_get hs).1) (by rw [hC.row.cellAt _ (by omega)]; exact (nc_get hs).2.1)
theorem frames_bad_stk {w : World} {B K : Nat} {l : List Nd} {F : Nat → Prop} (h : Stk w B K l F) (hK : K < 1000000) {i : Int} (hi : ¬ (0 ≤ i ∧ i < l.length)) :
    Calls Try.prog 19 #[.pointer (some ⟨B, 0, none⟩), .int .i64 i] w fun e w' => e = .returned (.tuple #[.slice none 0 0, .int .i64 4]) ∧ Far (fun _ => False) w w' := by
  obtain ⟨m1, m2, m3, sl, L, c1, c2, c3, hC, rfl, rfl⟩ := h
  obtain ⟨ao, cap, rfl⟩ := parts hC
  have hm := hC.many
  exact frames_bad w i B m1 m2 m3 L.length cap ao (by omega) hC.top (by simpa using hi)
theorem pops_bad_stk {w : World} {B K : Nat} {l : List Nd} {F : Nat → Prop} (h : Stk w B K l F) (hK : K < 1000000) {i : Int} (hi : ¬ (0 ≤ i ∧ i < l.length)) :
    Calls Try.prog 20 #[.pointer (some ⟨B, 0, none⟩), .int .i64 i] w fun e w' => e = .returned (.tuple #[.slice none 0 0, .int .i64 4]) ∧ Far (fun _ => False) w w' := by
  obtain ⟨m1, m2, m3, sl, L, c1, c2, c3, hC, rfl, rfl⟩ := h
  obtain ⟨ao, cap, rfl⟩ := parts hC
  have hm := hC.many
  exact pops_bad w i B m1 m2 m3 L.length cap ao (by omega) hC.top (by simpa using hi)
theorem frames_ok_stk {w : World} {B K : Nat} {l : List Nd} {F : Nat → Prop} (h : Stk w B K l F) (hK : K < 1000000) {i : Nat} {r : Nd} (hr : l[i]? = some r) :
    Calls Try.prog 19 #[.pointer (some ⟨B, 0, none⟩), .int .i64 i] w fun e w' => ∃ g, e = .returned (.tuple #[.slice (some ⟨g, 0, none⟩) r.fs.length r.fs.length, .int .i64 0]) ∧ w.heap.size ≤ g ∧
      w'.ownsRow w.heap.size 38 2 (.slice (some ⟨g, 0, none⟩) r.fs.length r.fs.length) r.fs.length (fcells r.fs) ∧ Far (fun _ => False) w w' := by
  obtain ⟨m1, m2, m3, sl, L, c1, c2, c3, hC, rfl, rfl⟩ := h
  obtain ⟨s, hs, rfl⟩ := get_map hr
  obtain ⟨g, cap, rfl⟩ := parts_some hC hs
  have hm := hC.many
  have hl := hC.long i s hs
  have hi : i < L.length := (List.getElem?_eq_some_iff.1 hs).1
  exact frames_ok w i B m1 m2 m3 L.length g cap s.nd.fs.length s.fv (fcells s.nd.fs) (by omega) (by omega) hC.top hi (by rw [hC.row.cellAt _ (by omega)]; exact (nc_get hs).2.2.1) (hC.frames i s hs) (fcells_one _)
theorem pops_ok_stk {w : World} {B K : Nat} {l : List Nd} {F : Nat → Prop} (h : Stk w B K l F) (hK : K < 1000000) {i : Nat} {r : Nd} (hr : l[i]? = some r) :
    Calls Try.prog 20 #[.pointer (some ⟨B, 0, none⟩), .int .i64 i] w fun e w' => ∃ g, e = .returned (.tuple #[.slice (some ⟨g, 0, none⟩) r.ps.length r.ps.length, .int .i64 0]) ∧ w.heap.size ≤ g ∧
      w'.ownsRow w.heap.size 3 1 (.slice (some ⟨g, 0, none⟩) r.ps.length r.ps.length) r.ps.length (pcells r.ps) ∧ Far (fun _ => False) w w' := by
  obtain ⟨m1, m2, m3, sl, L, c1, c2, c3, hC, rfl, rfl⟩ := h
  obtain ⟨s, hs, rfl⟩ := get_map hr
  obtain ⟨g, cap, rfl⟩ := parts_some hC hs
  have hm := hC.many
  have hl := hC.long i s hs
  have hi : i < L.length := (List.getElem?_eq_some_iff.1 hs).1
  exact pops_ok w i B m1 m2 m3 L.length g cap s.nd.ps.length s.pv (pcells s.nd.ps) (by omega) (by omega) hC.top hi (by rw [hC.row.cellAt _ (by omega)]; exact (nc_get hs).2.2.2) (hC.pops i s hs) (pcells_one _)
end Go.Proofs.Ythpkbeooplpinaa
