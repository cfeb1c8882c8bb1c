/-
  Two commands, the same: the library's Equal of two lists, the program's Same, the document's.
-/
import Derived.Test.YtjmgheogpglpnaaDoorHead30
import Derived.StillTailTactics
import Derived.StillTactics
namespace Go.Proofs.YtjmgheogpglpnaaDoor
open Go.RowKit
set_option linter.unusedVariables false
set_option linter.unusedSimpArgs false
/-- A command as it may be handed in. -/
structure CI where
  v : Int
  how : Int
  names : List Tx
  nums : List Int
  text : Tx
  deriving DecidableEq
/-- Texts in a row. -/
def Txs (w : World) (ao : Option Addr) (l : List Tx) : Prop := 0 < l.length → ∃ g off, ao = some ⟨g, off, none⟩ ∧ g < w.heap.size ∧ ∀ k x, l[k]? = some x → w.cell? ⟨g, off + k, none⟩ = some (.string ⟨x.toArray⟩)
/-- Numbers in a row. -/
def Nms (w : World) (ao : Option Addr) (l : List Int) : Prop := 0 < l.length → ∃ g off, ao = some ⟨g, off, none⟩ ∧ g < w.heap.size ∧ ∀ k x, l[k]? = some x → w.cell? ⟨g, off + k, none⟩ = some (.int .i64 x)
theorem Txs.move {w w' : World} {ao : Option Addr} {l : List Tx} (h : Txs w ao l) (hf : Far (fun _ => False) w w') : Txs w' ao l := fun hn => by
  obtain ⟨g, off, e, hg, hc⟩ := h hn
  exact ⟨g, off, e, Nat.lt_of_lt_of_le hg hf.size, fun k x hx => (hf.cell hg).trans (hc k x hx)⟩
theorem Nms.move {w w' : World} {ao : Option Addr} {l : List Int} (h : Nms w ao l) (hf : Far (fun _ => False) w w') : Nms w' ao l := fun hn => by
  obtain ⟨g, off, e, hg, hc⟩ := h hn
  exact ⟨g, off, e, Nat.lt_of_lt_of_le hg hf.size, fun k x hx => (hf.cell hg).trans (hc k x hx)⟩
def cmdV (c : CI) (no : Option Addr) (nc : Nat) (mo : Option Addr) (mc : Nat) : Array Value := #[.int .i64 c.v, .int .i64 c.how, .slice no c.names.length nc, .slice mo c.nums.length mc, .string ⟨c.text.toArray⟩]
def CmI (w : World) (V : Value) (c : CI) : Prop := ∃ no nc mo mc, V = .agg (cmdV c no nc mo mc) ∧ Txs w no c.names ∧ Nms w mo c.nums ∧ c.names.length ≤ maxLen ∧ c.nums.length ≤ maxLen
theorem CmI.move {w w' : World} {V : Value} {c : CI} (h : CmI w V c) (hf : Far (fun _ => False) w w') : CmI w' V c := by
  obtain ⟨no, nc, mo, mc, e, h1, h2, h3, h4⟩ := h
  exact ⟨no, nc, mo, mc, e, h1.move hf, h2.move hf, h3, h4⟩
def upC (c : Cm) : CI := ⟨c.v, c.how, c.names, c.nums.map fun (n : Nat) => (n : Int), c.text⟩
theorem own_txs {w : World} {B : Nat} {ao : Option Addr} {c : Nat} {l : List Tx} (h : w.ownsRow B 9 1 (.slice ao l.length c) l.length (l.map st)) : Txs w ao l := fun hn => by
  obtain ⟨g, cap, e, _, hg⟩ := World.ownsRow.form h hn
  injection e with e1 _ _
  subst e1
  exact ⟨g, 0, rfl, hg, fun k x hx => by rw [Nat.zero_add]; exact (h.cellAt k (by rw [Nat.mul_one]; exact (List.getElem?_eq_some_iff.1 hx).1)).trans (by rw [List.getElem?_map, hx]; rfl)⟩
theorem own_nms {w : World} {B : Nat} {ao : Option Addr} {c : Nat} {l : List Nat} (h : w.ownsRow B 3 1 (.slice ao l.length c) l.length (nums l)) : Nms w ao (l.map fun (n : Nat) => (n : Int)) := fun hn => by
  rw [List.length_map] at hn
  obtain ⟨g, cap, e, _, hg⟩ := World.ownsRow.form h hn
  injection e with e1 _ _
  subst e1
  refine ⟨g, 0, rfl, hg, fun k x hx => ?_⟩
  rw [List.getElem?_map] at hx
  cases hy : l[k]? with
  | none => rw [hy] at hx; cases hx
  | some y =>
    rw [hy] at hx
    injection hx with hx
    rw [Nat.zero_add]
    exact (h.cellAt k (by rw [Nat.mul_one]; exact (List.getElem?_eq_some_iff.1 hy).1)).trans (by unfold nums; rw [List.getElem?_map, hy, ← hx]; rfl)
theorem OwnC.cmi {w : World} {B : Nat} {V : Value} {c : Cm} (h : OwnC w B V c) (h1 : c.names.length ≤ maxLen) (h2 : c.nums.length ≤ maxLen) : CmI w V (upC c) := by
  obtain ⟨no, nc, mo, mc, rfl, ho1, ho2⟩ := h.form
  exact ⟨no, nc, mo, mc, by unfold cmdV upC; simp, own_txs ho1, own_nms ho2, h1, by show (c.nums.map _).length ≤ _; rw [List.length_map]; exact h2⟩
theorem take_next {α : Type} {l m : List α} {i : Nat} {x y : α} (h : l.take i = m.take i) (hx : l[i]? = some x) (hy : m[i]? = some y) : (x = y → l.take (i + 1) = m.take (i + 1)) ∧ (x ≠ y → l ≠ m) := by
  refine ⟨fun e => ?_, fun e he => ?_⟩
  · have a := (List.getElem?_eq_some_iff.1 hx).1
    have b := (List.getElem?_eq_some_iff.1 hy).1
    rw [List.take_add_one, List.take_add_one, h, hx, hy, e]
  · subst he
    rw [hx] at hy
    exact e (Option.some.inj hy)
section
set_option maxHeartbeats 2000000
set_option maxRecDepth 100000
theorem eqs_any (ao bo : Option Addr) (ac bc : Nat) (l m : List Tx) (w : World) (hl : Txs w ao l) (hm : Txs w bo m) (h1 : l.length ≤ maxLen) (h2 : m.length ≤ maxLen) :
    Calls Tryd.prog 29 #[.slice ao l.length ac, .slice bo m.length bc] w fun e w' => e = .returned (.bool (decide (l = m))) ∧ Far (fun _ => False) w w' := by
  unfold maxLen at h1 h2
  have HL := Lib.hid hl
  have HM := Lib.hid hm
  clear hl hm
  by_cases hlen : l.length = m.length
  · have hlen' := Lib.hid hlen
    rw [← hlen]
    clear hlen
    obtain ⟨n, hn⟩ : ∃ n, n = l.length := ⟨_, rfl⟩
    rw [← hn]
    rw [← hn] at h1
    have hn' := Lib.hid hn
    clear hn h2
    go_enter Tryd.func29, Tryd.ntmps29
    go_wp2_with fail
    go_loopw [13] (fun iv wr => ∃ i : Nat, iv = .int .i64 i ∧ i ≤ n ∧ l.take i = m.take i ∧ Far (fun _ => False) w wr) (fun iv _ => n - (intOf iv).toNat)
    case atStart => exact ⟨0, rfl, Nat.zero_le _, rfl, Far.refl _ _⟩
    case round =>
      obtain ⟨i, rfl, hi, heq, hfw⟩ := hrel
      by_cases hlt : i < n
      · have e1 : decide ((i : Int) < (n : Int)) = true := by rw [decide_eq_true_eq]; omega
        have hii : (i : Int) < (n : Int) := by omega
        have k1 : i < l.length := by have := hn'.out; omega
        have k2 : i < m.length := by have := hn'.out; have := hlen'.out; omega
        obtain ⟨x, hx⟩ : ∃ x, l[i]? = some x := ⟨l[i], List.getElem?_eq_getElem k1⟩
        obtain ⟨y, hy⟩ : ∃ y, m[i]? = some y := ⟨m[i], List.getElem?_eq_getElem k2⟩
        obtain ⟨g1, o1, rfl, b1, c1⟩ := (HL.out.move hfw) (by omega)
        obtain ⟨g2, o2, rfl, b2, c2⟩ := (HM.out.move hfw) (by omega)
        have d1 := c1 i x hx
        have d2 := c2 i y hy
        have TN := Lib.hid (take_next heq hx hy)
        have hfw' := Lib.hid hfw
        clear c1 c2 hx hy heq hfw k1 k2
        by_cases hxy : x = y
        · subst hxy
          have TY := Lib.hid (TN.out.1 rfl)
          clear TN
          have q1 : ((⟨x.toArray⟩ : ByteArray).toList == (⟨x.toArray⟩ : ByteArray).toList) = true := by simp
          have q2 : (x == x) = true := by simp
          go_wp2_with fail
          go_quiet (fail)
          go_wp2_with fail
          exact ⟨⟨i + 1, by go_num, by omega, TY.out, hfw'.out.drewN _⟩, by simp [intOf]; omega⟩
        · have q1 : ((⟨x.toArray⟩ : ByteArray).toList == (⟨y.toArray⟩ : ByteArray).toList) = false := by rw [str_beq]; simpa using hxy
          have q2 : (x == y) = false := by simpa using hxy
          have hd := Lib.hid (show decide (l = m) = false by simpa using TN.out.2 hxy)
          clear hxy TN
          go_wp2_with fail
          go_quiet (fail)
          go_wp2_with fail
          go_ret
          exact ⟨by rw [hd.out]; rfl, hfw'.out.drewN _⟩
      · have e1 : decide ((i : Int) < (n : Int)) = false := by rw [decide_eq_false_iff_not]; omega
        have hin : i = n := by omega
        have hfw' := Lib.hid hfw
        have heq' := Lib.hid heq
        clear hfw heq
        go_wp2_with fail
        go_ret
        refine ⟨?_, hfw'.out⟩
        have h := heq'.out
        rw [hin, hn'.out, List.take_length, hlen'.out, List.take_length] at h
        rw [show decide (l = m) = true by simpa using h]
        rfl
  · have e0 : ((l.length : Int) == (m.length : Int)) = false := by simp; omega
    have hd : decide (l = m) = false := by
      rw [decide_eq_false_iff_not]
      intro e
      exact hlen (by rw [e])
    rw [hd]
    clear hlen hd
    go_enter Tryd.func29, Tryd.ntmps29
    go_wp2_with fail
    go_ret
    exact ⟨rfl, Far.refl _ _⟩
theorem eqn_any (ao bo : Option Addr) (ac bc : Nat) (l m : List Int) (w : World) (hl : Nms w ao l) (hm : Nms w bo m) (h1 : l.length ≤ maxLen) (h2 : m.length ≤ maxLen) :
    Calls Tryd.prog 30 #[.slice ao l.length ac, .slice bo m.length bc] w fun e w' => e = .returned (.bool (decide (l = m))) ∧ Far (fun _ => False) w w' := by
  unfold maxLen at h1 h2
  have HL := Lib.hid hl
  have HM := Lib.hid hm
  clear hl hm
  by_cases hlen : l.length = m.length
  · have hlen' := Lib.hid hlen
    rw [← hlen]
    clear hlen
    obtain ⟨n, hn⟩ : ∃ n, n = l.length := ⟨_, rfl⟩
    rw [← hn]
    rw [← hn] at h1
    have hn' := Lib.hid hn
    clear hn h2
    go_enter Tryd.func30, Tryd.ntmps30
    go_wp2_with fail
    go_loopw [13] (fun iv wr => ∃ i : Nat, iv = .int .i64 i ∧ i ≤ n ∧ l.take i = m.take i ∧ Far (fun _ => False) w wr) (fun iv _ => n - (intOf iv).toNat)
    case atStart => exact ⟨0, rfl, Nat.zero_le _, rfl, Far.refl _ _⟩
    case round =>
      obtain ⟨i, rfl, hi, heq, hfw⟩ := hrel
      by_cases hlt : i < n
      · have e1 : decide ((i : Int) < (n : Int)) = true := by rw [decide_eq_true_eq]; omega
        have hii : (i : Int) < (n : Int) := by omega
        have k1 : i < l.length := by have := hn'.out; omega
        have k2 : i < m.length := by have := hn'.out; have := hlen'.out; omega
        obtain ⟨x, hx⟩ : ∃ x, l[i]? = some x := ⟨l[i], List.getElem?_eq_getElem k1⟩
        obtain ⟨y, hy⟩ : ∃ y, m[i]? = some y := ⟨m[i], List.getElem?_eq_getElem k2⟩
        obtain ⟨g1, o1, rfl, b1, c1⟩ := (HL.out.move hfw) (by omega)
        obtain ⟨g2, o2, rfl, b2, c2⟩ := (HM.out.move hfw) (by omega)
        have d1 := c1 i x hx
        have d2 := c2 i y hy
        have TN := Lib.hid (take_next heq hx hy)
        have hfw' := Lib.hid hfw
        clear c1 c2 hx hy heq hfw k1 k2
        by_cases hxy : x = y
        · subst hxy
          have TY := Lib.hid (TN.out.1 rfl)
          clear TN
          have q2 : (x == x) = true := by simp
          go_wp2_with fail
          go_quiet (fail)
          go_wp2_with fail
          exact ⟨⟨i + 1, by go_num, by omega, TY.out, hfw'.out.drewN _⟩, by simp [intOf]; omega⟩
        · have q2 : (x == y) = false := by simpa using hxy
          have hd := Lib.hid (show decide (l = m) = false by simpa using TN.out.2 hxy)
          clear hxy TN
          go_wp2_with fail
          go_quiet (fail)
          go_wp2_with fail
          go_ret
          exact ⟨by rw [hd.out]; rfl, hfw'.out.drewN _⟩
      · have e1 : decide ((i : Int) < (n : Int)) = false := by rw [decide_eq_false_iff_not]; omega
        have hin : i = n := by omega
        have hfw' := Lib.hid hfw
        have heq' := Lib.hid heq
        clear hfw heq
        go_wp2_with fail
        go_ret
        refine ⟨?_, hfw'.out⟩
        have h := heq'.out
        rw [hin, hn'.out, List.take_length, hlen'.out, List.take_length] at h
        rw [show decide (l = m) = true by simpa using h]
        rfl
  · have e0 : ((l.length : Int) == (m.length : Int)) = false := by simp; omega
    have hd : decide (l = m) = false := by
      rw [decide_eq_false_iff_not]
      intro e
      exact hlen (by rw [e])
    rw [hd]
    clear hlen hd
    go_enter Tryd.func30, Tryd.ntmps30
    go_wp2_with fail
    go_ret
    exact ⟨rfl, Far.refl _ _⟩
theorem ci_ne {a b : CI} : a = b ↔ a.v = b.v ∧ a.how = b.how ∧ a.names = b.names ∧ a.nums = b.nums ∧ a.text = b.text := by
  cases a; cases b; simp
theorem same_any (va vb : Value) (a b : CI) (w : World) (ha : CmI w va a) (hb : CmI w vb b) :
    Calls Tryd.prog 17 #[va, vb] w fun e w' => e = .returned (.bool (decide (a = b))) ∧ Far (fun _ => False) w w' := by
  obtain ⟨no, nc, mo, mc, rfl, hN, hM, n1, n2⟩ := ha
  obtain ⟨no', nc', mo', mc', rfl, hN', hM', n3, n4⟩ := hb
  unfold cmdV
  obtain ⟨k1, hk1⟩ : ∃ k, k = w.heap.size := ⟨_, rfl⟩
  obtain ⟨k2, hk2⟩ : ∃ k, k = k1 + 1 := ⟨_, rfl⟩
  obtain ⟨w1, hw1⟩ : ∃ W, W = w.alloc (.cells (cmdV a no nc mo mc) 27) := ⟨_, rfl⟩
  obtain ⟨w2, hw2⟩ : ∃ W, W = w1.alloc (.cells (cmdV b no' nc' mo' mc') 27) := ⟨_, rfl⟩
  have z1 : w1.heap.size = k2 := by rw [hw1]; simp [hk2, hk1]
  have hF : Far (fun _ => False) w w2 := hw2 ▸ (hw1 ▸ (Far.refl _ w).alloc _ : Far (fun _ => False) w w1).alloc _
  have hA : Bk w2 k1 27 (cmdV a no nc mo mc) := hw2 ▸ (hw1 ▸ Bk.new hk1 : Bk w1 k1 27 (cmdV a no nc mo mc)).alloc _
  have hB : Bk w2 k2 27 (cmdV b no' nc' mo' mc') := hw2 ▸ Bk.new z1.symm
  have a0 : w2.cell? ⟨k1, 0, none⟩ = some (.int .i64 a.v) := hA.cell 0
  have a1 : w2.cell? ⟨k1, 1, none⟩ = some (.int .i64 a.how) := hA.cell 1
  have a2 : w2.cell? ⟨k1, 2, none⟩ = some (.slice no a.names.length nc) := hA.cell 2
  have a3 : w2.cell? ⟨k1, 3, none⟩ = some (.slice mo a.nums.length mc) := hA.cell 3
  have a4 : w2.cell? ⟨k1, 4, none⟩ = some (.string ⟨a.text.toArray⟩) := hA.cell 4
  have b0 : w2.cell? ⟨k2, 0, none⟩ = some (.int .i64 b.v) := hB.cell 0
  have b1 : w2.cell? ⟨k2, 1, none⟩ = some (.int .i64 b.how) := hB.cell 1
  have b2 : w2.cell? ⟨k2, 2, none⟩ = some (.slice no' b.names.length nc') := hB.cell 2
  have b3 : w2.cell? ⟨k2, 3, none⟩ = some (.slice mo' b.nums.length mc') := hB.cell 3
  have b4 : w2.cell? ⟨k2, 4, none⟩ = some (.string ⟨b.text.toArray⟩) := hB.cell 4
  have EN := Lib.hid (eqs_any no no' nc nc' a.names b.names w2 (hN.move hF) (hN'.move hF) n1 n3)
  have EM := Lib.hid (fun W (h : Far (fun _ => False) w2 W) => eqn_any mo mo' mc mc' a.nums b.nums W ((hM.move hF).move h) ((hM'.move hF).move h) n2 n4)
  have CE := Lib.hid (@ci_ne a b)
  have hA' := Lib.hid hA
  have hB' := Lib.hid hB
  have hF' := Lib.hid hF
  have hk1' := Lib.hid hk1
  have hk2' := Lib.hid hk2
  have hw1' := Lib.hid hw1
  have hw2' := Lib.hid hw2
  unfold cmdV at hw1' hw2'
  clear hA hB hF hk1 hk2 hw1 hw2 z1 hN hN' hM hM' n1 n2 n3 n4
  by_cases h1 : a.v = b.v
  rotate_left
  · have q1 : (a.v == b.v) = false := by simpa using h1
    have hd := Lib.hid (show decide (a = b) = false by rw [decide_eq_false_iff_not, CE.out]; exact fun h => h1 h.1)
    clear h1 EN EM
    go_enter Tryd.func17, Tryd.ntmps17
    go_upto_region 1 with fail
    rw [← hk1'.out, ← hk2'.out, ← hw1'.out, ← hw2'.out]
    go_wp2_with fail
    go_ret
    exact ⟨by rw [hd.out]; rfl, hF'.out⟩
  have q1 : (a.v == b.v) = true := by simpa using h1
  by_cases h2 : a.how = b.how
  rotate_left
  · have q2 : (a.how == b.how) = false := by simpa using h2
    have hd := Lib.hid (show decide (a = b) = false by rw [decide_eq_false_iff_not, CE.out]; exact fun h => h2 h.2.1)
    clear h1 h2 EN EM
    go_enter Tryd.func17, Tryd.ntmps17
    go_upto_region 1 with fail
    rw [← hk1'.out, ← hk2'.out, ← hw1'.out, ← hw2'.out]
    go_wp2_with fail
    go_ret
    exact ⟨by rw [hd.out]; rfl, hF'.out⟩
  have q2 : (a.how == b.how) = true := by simpa using h2
  by_cases h3 : a.names = b.names
  rotate_left
  · have q3 : decide (a.names = b.names) = false := by simpa using h3
    have hd := Lib.hid (show decide (a = b) = false by rw [decide_eq_false_iff_not, CE.out]; exact fun h => h3 h.2.2.1)
    rw [q3] at EN
    clear h1 h2 h3 EM
    go_enter Tryd.func17, Tryd.ntmps17
    go_upto_region 1 with fail
    rw [← hk1'.out, ← hk2'.out, ← hw1'.out, ← hw2'.out]
    go_wp2_with (refine EN.out.mono ?_; rintro e w3 ⟨rfl, hf3⟩; have hf3' := Lib.hid hf3; clear hf3)
    go_ret
    exact ⟨by rw [hd.out]; rfl, hF'.out.then hf3'.out⟩
  have q3 : decide (a.names = b.names) = true := by simpa using h3
  rw [q3] at EN
  by_cases h4 : a.nums = b.nums
  rotate_left
  · have q4 : decide (a.nums = b.nums) = false := by simpa using h4
    have hd := Lib.hid (show decide (a = b) = false by rw [decide_eq_false_iff_not, CE.out]; exact fun h => h4 h.2.2.2.1)
    simp only [q4] at EM
    clear h1 h2 h3 h4
    go_enter Tryd.func17, Tryd.ntmps17
    go_upto_region 1 with fail
    rw [← hk1'.out, ← hk2'.out, ← hw1'.out, ← hw2'.out]
    go_wp2_with (first
      | (refine EN.out.mono ?_; rintro e w3 ⟨rfl, hf3⟩; have hf3' := Lib.hid hf3; have d3 : w3.cell? ⟨k1, 3, none⟩ = some (.slice mo a.nums.length mc) := (hA'.out.far' hf3 id).cell 3; have e3 : w3.cell? ⟨k2, 3, none⟩ = some (.slice mo' b.nums.length mc') := (hB'.out.far' hf3 id).cell 3; clear hf3 EN)
      | (refine (EM.out _ hf3'.out).mono ?_; rintro e w4 ⟨rfl, hf4⟩; have hf4' := Lib.hid hf4; clear hf4))
    go_ret
    exact ⟨by rw [hd.out]; rfl, hF'.out.then (hf3'.out.then hf4'.out)⟩
  have q4 : decide (a.nums = b.nums) = true := by simpa using h4
  simp only [q4] at EM
  have hd := Lib.hid (show decide (a = b) = decide (a.text = b.text) by
    by_cases h5 : a.text = b.text
    · rw [decide_eq_true h5, decide_eq_true (CE.out.2 ⟨h1, h2, h3, h4, h5⟩)]
    · rw [decide_eq_false h5, decide_eq_false fun h => h5 (CE.out.1 h).2.2.2.2])
  have q5 := str_beq a.text b.text
  have q6 : (a.text == b.text) = decide (a.text = b.text) := by by_cases h : a.text = b.text <;> simp [h]
  clear h1 h2 h3 h4 q3 q4
  go_enter Tryd.func17, Tryd.ntmps17
  go_upto_region 1 with fail
  rw [← hk1'.out, ← hk2'.out, ← hw1'.out, ← hw2'.out]
  go_wp2_with (first
    | (refine EN.out.mono ?_; rintro e w3 ⟨rfl, hf3⟩; have hf3' := Lib.hid hf3; have hA3 := Lib.hid (hA'.out.far' hf3 id); have hB3 := Lib.hid (hB'.out.far' hf3 id); have d3 : w3.cell? ⟨k1, 3, none⟩ = some (.slice mo a.nums.length mc) := hA3.out.cell 3; have e3 : w3.cell? ⟨k2, 3, none⟩ = some (.slice mo' b.nums.length mc') := hB3.out.cell 3; clear hf3 EN)
    | (refine (EM.out _ hf3'.out).mono ?_; rintro e w4 ⟨rfl, hf4⟩; have hf4' := Lib.hid hf4; have d4 : w4.cell? ⟨k1, 4, none⟩ = some (.string ⟨a.text.toArray⟩) := (hA3.out.far' hf4 id).cell 4; have e4 : w4.cell? ⟨k2, 4, none⟩ = some (.string ⟨b.text.toArray⟩) := (hB3.out.far' hf4 id).cell 4; clear hf4))
  go_ret
  exact ⟨by rw [hd.out]; rfl, hF'.out.then (hf3'.out.then hf4'.out)⟩
end
end Go.Proofs.YtjmgheogpglpnaaDoor
