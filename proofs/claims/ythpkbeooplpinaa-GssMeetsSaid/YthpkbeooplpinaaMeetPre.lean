/-
  GssMeets: what its walk needs.
-/
import Derived.Test.YthpkbeooplpinaaCar
namespace Go.Proofs.Ythpkbeooplpinaa
open Go.RowKit
set_option linter.unusedVariables false
set_option linter.unusedSimpArgs false
def ccells (l : List Cm) : List Value := l.flatMap fun x => [.int .i64 x.1, .int .i64 x.2.1, .int .i64 x.2.2.1, .bool x.2.2.2]
theorem ccells_app (l : List Cm) (x : Cm) : ccells (l ++ [x]) = ccells l ++ [.int .i64 x.1, .int .i64 x.2.1, .int .i64 x.2.2.1, .bool x.2.2.2] := by simp [ccells]
theorem ccells_get {l : List Cm} {k : Nat} {x : Cm} (h : l[k]? = some x) : (ccells l)[k * 4]? = some (.int .i64 x.1) ∧ (ccells l)[k * 4 + 1]? = some (.int .i64 x.2.1) ∧ (ccells l)[k * 4 + 2]? = some (.int .i64 x.2.2.1) ∧ (ccells l)[k * 4 + 3]? = some (.bool x.2.2.2) := by
  induction l generalizing k with
  | nil => simp at h
  | cons y L ih =>
    have e : ccells (y :: L) = .int .i64 y.1 :: .int .i64 y.2.1 :: .int .i64 y.2.2.1 :: .bool y.2.2.2 :: ccells L := rfl
    cases k with
    | zero => simp at h; subst h; rw [e]; exact ⟨rfl, rfl, rfl, rfl⟩
    | succ i =>
      have := ih (by simpa using h)
      rw [e, show (i + 1) * 4 = i * 4 + 1 + 1 + 1 + 1 by omega, show i * 4 + 1 + 1 + 1 + 1 + 1 = (i * 4 + 1) + 1 + 1 + 1 + 1 by omega, show i * 4 + 1 + 1 + 1 + 1 + 2 = (i * 4 + 2) + 1 + 1 + 1 + 1 by omega, show i * 4 + 1 + 1 + 1 + 1 + 3 = (i * 4 + 3) + 1 + 1 + 1 + 1 by omega]
      simpa only [List.getElem?_cons_succ] using this
/-- The things the other way round. -/
def rv (m : Nat) (f : Nat → Cm) (j : Nat) : List Cm := (List.range j).map fun q => f (m - 1 - q)
theorem rv_length (m : Nat) (f : Nat → Cm) (j : Nat) : (rv m f j).length = j := by simp [rv]
theorem rv_succ (m : Nat) (f : Nat → Cm) (j : Nat) : rv m f (j + 1) = rv m f j ++ [f (m - 1 - j)] := by simp [rv, List.range_succ]
theorem rv_get {m j q : Nat} {f : Nat → Cm} (h : q < j) : (rv m f j)[q]? = some (f (m - 1 - q)) := by simp [rv, h]
theorem ths_rv (n m : Nat) (f : Nat → Cm) (t : Thing) : t ∈ ths n f m ↔ t ∈ ths n (fun q => f (m - 1 - q)) m := by
  unfold ths
  simp only [List.mem_map, List.mem_range]
  constructor
  · rintro ⟨j, hj, rfl⟩
    exact ⟨m - 1 - j, by omega, by rw [show m - 1 - (m - 1 - j) = j by omega]⟩
  · rintro ⟨j, hj, rfl⟩
    exact ⟨m - 1 - j, by omega, rfl⟩
theorem Cms.row {w : World} {F : Nat → Prop} {base : Nat} {so : Option Addr} {m cap : Nat} {f : Nat → Cm} (h : w.ownsRow base 61 4 (.slice so m cap) m (ccells (rv m f m))) (hF : ∀ k, F k → (Value.slice so m cap).ownBlock ≠ some k) : Cms w F so m (fun q => f (m - 1 - q)) := fun hm => by
  obtain ⟨g, c, e, _, hlt⟩ := h.form hm
  cases e
  refine ⟨g, 0, rfl, hlt, fun hg => hF g hg rfl, fun k hk => ?_⟩
  obtain ⟨c0, c1, c2, c3⟩ := ccells_get (rv_get (m := m) (f := f) hk)
  rw [Nat.zero_add]
  exact ⟨by rw [h.cellAt _ (by omega)]; exact c0, by rw [h.cellAt _ (by omega)]; exact c1, by rw [h.cellAt _ (by omega)]; exact c2, by rw [h.cellAt _ (by omega)]; exact c3⟩
theorem total_take {l : List Nd} {k : Nat} {r : Nd} (h : l[k]? = some r) : total (l.take (k + 1)) = total (l.take k) + r.fs.length * r.ps.length := by
  have hk : k < l.length := (List.getElem?_eq_some_iff.1 h).1
  have he : l[k] = r := by have := List.getElem?_eq_getElem hk; rw [h] at this; exact (Option.some.inj this).symm
  unfold total
  rw [List.take_succ_eq_append_getElem hk, he]
  simp
/-- What two answers to the same things have in common. -/
structure Two (n K : Nat) (l m : List Nd) (a b : List Mt) : Prop where
  len : a.length = b.length
  tot : a.length = total l
  l1 : l.length = n
  l2 : m.length = n
  same : ∀ (k : Nat) (r s : Nd), l[k]? = some r → m[k]? = some s → r.fs.length = s.fs.length ∧ r.ps.length = s.ps.length
  one : ∀ (k : Nat) (r : Nd), l[k]? = some r → ∀ f p, f ∈ r.fs → p ∈ r.ps → a.count (k, p, f) = 1 ∧ b.count (k, p, f) = 1
theorem Two.mk' {n : Nat} {l m : List Nd} {xs ys : List Thing} {a b : List Mt} (K : Nat) (hl : From n l xs) (hm : From n m ys) (hxy : ∀ t, t ∈ xs ↔ t ∈ ys) (ha : Inv l a) (hb : Inv m b) : Two n K l m a b := by
  have hs : ∀ (k : Nat) (r s : Nd), l[k]? = some r → m[k]? = some s → r.fs.length = s.fs.length ∧ r.ps.length = s.ps.length := fun k r s hr hs => by
    have := same_len hl hm hxy ha hb hr hs
    exact ⟨this.1, this.2.1⟩
  refine ⟨by rw [ha.len, hb.len]; exact total_eq l m (by rw [hl.len, hm.len]) hs, ha.len, hl.len, hm.len, hs, fun k r hr f p hf hp => ?_⟩
  have hk : k < m.length := by rw [hm.len, ← hl.len]; exact (List.getElem?_eq_some_iff.1 hr).1
  have hsk : m[k]? = some m[k] := by simp [hk]
  have := same_len hl hm hxy ha hb hr hsk
  exact ⟨ha.one k p f ⟨r, hr, hf⟩ ⟨r, hr, hp⟩, hb.one k p f ⟨_, hsk, this.2.2.1 f hf⟩ ⟨_, hsk, this.2.2.2 p hp⟩⟩
theorem Cms.move {w w' : World} {ao : Option Addr} {m : Nat} {f : Nat → Cm} {F : Nat → Prop} (h : Cms w (fun _ => False) ao m f) (hf : Far (fun _ => False) w w') (hF : ∀ k, F k → w.heap.size ≤ k) : Cms w' F ao m f := fun hm => by
  obtain ⟨g, off, e, hg, _, hc⟩ := h hm
  refine ⟨g, off, e, Nat.lt_of_lt_of_le hg hf.size, fun hFg => by have := hF g hFg; omega, fun k hk => ?_⟩
  obtain ⟨c0, c1, c2, c3⟩ := hc k hk
  exact ⟨(hf.cell hg).trans c0, (hf.cell hg).trans c1, (hf.cell hg).trans c2, (hf.cell hg).trans c3⟩
theorem total_le (l : List Nd) (k : Nat) : total (l.take k) ≤ total l := by
  unfold total
  have : l = l.take k ++ l.drop k := (List.take_append_drop k l).symm
  conv => rhs; rw [this]
  rw [List.map_append, List.sum_append]
  omega
theorem info_come : (Try.prog.info? 61).map (fun i => (i.zero, i.size, i.bytes)) = some (some (.agg #[.int .i64 0, .int .i64 0, .int .i64 0, .bool false]), 4, 32) := by kernel_rfl
theorem eq_ptr (B : Nat) (w : World) : (binOp .eql 24 (.pointer (some ⟨B, 0, none⟩)) (.pointer none)).run Try.prog w = .ok (.bool false) w := by
  have e : ∀ d, (Op.equalIn (d + 1) 24 (.pointer (some ⟨B, 0, none⟩)) (.pointer none)).run Try.prog w = .ok false w := fun d => by simp [Op.equalIn, run_underlying Try.underlying24]
  simp [binOp, Op.equal]
  rw [show Op.maxDepth = 9999 + 1 from rfl, e]
  rfl
end Go.Proofs.Ythpkbeooplpinaa
