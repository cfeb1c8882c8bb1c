/-
  The document's Sorted: any cells, rising, each once.
-/
import Derived.Test.YtjolkhiggcmoiaaGreatDoorQMerge
namespace Go.Proofs.YtjolkhiggcmoiaaGreatDoor
open Go.RowKit Go.Shelf
set_option linter.unusedVariables false
set_option linter.unusedSimpArgs false
theorem PL.part {w : World} {g off n k : Nat} {l : List (Nat × Nat)} (h : PL w (some ⟨g, off, none⟩) l) (hk : k ≤ l.length) : PL w (some ⟨g, off, none⟩) (l.take k) ∧ PL w (some ⟨g, off + k * 2, none⟩) (l.drop k) := by
  refine ⟨fun h0 => ?_, fun h0 => ?_⟩
  · rw [List.length_take] at h0
    obtain ⟨g', off', e, hg, hc⟩ := h (by omega)
    cases e
    refine ⟨g, off, rfl, hg, fun q hq => ?_⟩
    rw [List.length_take] at hq
    have e1 : (l.take k).getD q (0, 0) = l.getD q (0, 0) := by
      rw [List.getD_eq_getElem?_getD, List.getD_eq_getElem?_getD, List.getElem?_take_of_lt (by omega)]
    dsimp only
    rw [e1]
    exact hc q (by omega)
  · rw [List.length_drop] at h0
    obtain ⟨g', off', e, hg, hc⟩ := h (by omega)
    cases e
    refine ⟨g, off + k * 2, rfl, hg, fun q hq => ?_⟩
    rw [List.length_drop] at hq
    have e1 : (l.drop k).getD q (0, 0) = l.getD (k + q) (0, 0) := by
      rw [List.getD_eq_getElem?_getD, List.getD_eq_getElem?_getD, List.getElem?_drop]
    dsimp only
    rw [e1, show off + k * 2 + q * 2 = off + (k + q) * 2 by omega]
    exact hc (k + q) (by omega)
theorem rise_len {l : List (Nat × Nat)} (h : l.Pairwise lexLt) (hw : ∀ x ∈ l, x.1 < 1024 ∧ x.2 < 1024) : l.length ≤ 1048576 := by
  have hM : ∀ r c, decide ((r, c) ∈ l) = true → r < 1024 ∧ c < 1024 := fun r c h => hw (r, c) (of_decide_eq_true h)
  have e : l = cellsL (fun r c => decide ((r, c) ∈ l)) 1024 := rise_eq h (cellsK_rise _ _ _) fun x => by
    rw [mem_cellsL hM]; simp
  rw [e]
  exact cellsK_le _ 1024 1024
section
set_option maxHeartbeats 16000000
set_option maxRecDepth 100000
theorem run_app_zero {P : Program} {w : World} (base : Nat) (t ty e : TypeId) (i : TypeInfo) (size : Nat) (ht : P.underlying t = some (.slice e)) (hi : P.info? e = some i)
    (v : Value) (n : Nat) (xs : List Value) (hown : w.ownsRow base e size v n xs) (ao : Option Addr) (cap : Nat) :
    (Builtin.append_ #[t, t] ty #[v, .slice ao 0 cap]).run P w = .ok v w := by
  cases ao <;> rcases hown.2 with ⟨rfl, rfl⟩ | ⟨g, cap2, cur, rfl, _, _, hnc, _⟩
  all_goals simp [Builtin.append_, run_underlying ht, sizeOf, typeInfo, hi, Builtin.lenOf, Builtin.firstCells, storeCells, loadCells, loadCellsFrom, *]
theorem wpList_app_zero {P : Program} {w : World} {ops : Array Oper} {rest : List Oper} {o : Oper} {a : Act} {Q : Exit → Act → World → Prop} (hgd : o.guard = none) (s x : Operand) (t : TypeId)
    (ho : o.op = .call { callee := .builtin .append, args := #[s, x], argTypes := #[t, t] })
    (base : Nat) (e : TypeId) (i : TypeInfo) (size : Nat) (ht : P.underlying t = some (.slice e)) (hi : P.info? e = some i)
    (v : Value) (n : Nat) (xs : List Value) (hs : a.eval s = v) (hown : w.ownsRow base e size v n xs) (ao : Option Addr) (cap : Nat) (hx : a.eval x = .slice ao 0 cap)
    (h : wpList P ops Q rest (a.put o.dst v) w) : wpList P ops Q (o :: rest) a w := by
  refine wpList_plain hgd fun K hK => ?_
  have hrun := run_app_zero (P := P) (w := w) base t o.type e i size ht hi v n xs hown ao cap
  unfold Oper.wp
  simp [execOp, ho, resolve, invoke, builtin, hs, hx, hrun, Result.andThen]
  exact hK _ _ h
def SortedAt (l : List (Nat × Nat)) : Prop := ∀ (n : Nat) (ao : Option Addr) (cap : Nat) (w : World), n = l.length → n ≤ cap → n ≤ 9223372036854775807 → (∀ x ∈ l, x.1 < 1024 ∧ x.2 < 1024) → PL w ao l →
  Calls Tryz.prog 67 #[.slice ao n cap] w fun e w' => ∃ v, e = .returned v ∧ ∃ o : List (Nat × Nat), w'.ownsRow w.heap.size 71 2 v o.length (ccells o) ∧ o.Pairwise lexLt ∧ (∀ x, x ∈ o ↔ x ∈ l) ∧ o.length ≤ n ∧ Far (fun _ => False) w w'
theorem sorted_big (l : List (Nat × Nat)) (hl : 2 ≤ l.length) (IH : ∀ k : List (Nat × Nat), k.length < l.length → SortedAt k) : SortedAt l := by
  intro n ao cap w hn hcap hsz hwi hPL
  obtain ⟨g, off, rfl, hg, _⟩ := hPL (by omega)
  obtain ⟨h, hh⟩ : ∃ h, n / 2 = h := ⟨_, rfl⟩
  have hhn : h ≤ n := by omega
  have hh0 : 1 ≤ h := by omega
  obtain ⟨P1, P2⟩ := hPL.part (n := n) (k := h) (by omega)
  have C1 := Lib.hid (fun (W : World) (hf : Far (fun _ => False) w W) => IH (l.take h) (by rw [List.length_take]; omega) h (some ⟨g, off, none⟩) cap W (by rw [List.length_take]; omega) (by omega) (by omega) (fun x hx => hwi x (List.mem_of_mem_take hx)) (P1.move hf))
  have C2 := Lib.hid (fun (W : World) (hf : Far (fun _ => False) w W) => IH (l.drop h) (by rw [List.length_drop]; omega) (n - h) (some ⟨g, off + h * 2, none⟩) (cap - h) W (by rw [List.length_drop]; omega) (by omega) (by omega) (fun x hx => hwi x (List.mem_of_mem_drop hx)) (P2.move hf))
  have hn2 : ¬ (n : Int) < 2 := by omega
  have hhi : ((n : Int) / 2) = (h : Int) := by omega
  have hti : Int.tdiv (n : Int) 2 = (h : Int) := by rw [Int.tdiv_eq_ediv_of_nonneg (by omega)]; exact hhi
  have hc1 : (h : Int) ≤ (cap : Int) := by omega
  have hc2 : (n : Int) ≤ (cap : Int) := by omega
  have hc3 : (h : Int) ≤ (n : Int) := by omega
  have hc4 : h ≤ cap := by omega
  have hwr : IntKind.i64.wrap (h : Int) = (h : Int) := by rw [IntKind.wrap_i64]; omega
  have hne : ¬ cap = h := by omega
  have hc5 : (0 : Int) ≤ (h : Int) := by omega
  have hc6 : ¬ (cap : Int) < (h : Int) := by omega
  have hc7 : ¬ (cap : Int) < (n : Int) := by omega
  have hc8 : ¬ (n : Int) < (h : Int) := by omega
  have hni := Lib.hid hn
  have hPL' := Lib.hid hPL
  clear P1 P2 hPL IH hh hn
  go_enter Tryz.func67, Tryz.ntmps67
  go_upto_region 3 with fail
  go_region_with (first
    | ((with_reducible refine (C1.out _ (Far.refl _ w).drew).mono ?_); rintro e w5 ⟨v1, rfl, o1, ho1, hr1, hm1, hl1, hf1⟩; have hf1' := Lib.hid ((Far.refl _ w).drew.then hf1); obtain ⟨vo1, vc1, rfl⟩ := q_form ho1; have ho1' := Lib.hid ho1; clear hf1 ho1)
    | ((with_reducible refine (C2.out _ hf1'.out).mono ?_); rintro e w6 ⟨v2, rfl, o2, ho2, hr2, hm2, hl2, hf2⟩; have hf2' := Lib.hid hf2; obtain ⟨vo2, vc2, rfl⟩ := q_form ho2; have ho2' := Lib.hid ho2; clear hf2 ho2))
  have ho1w := Lib.hid (row_same ho1'.out fun k hk hl => hf2'.out.block k hl id)
  have hb1 := rise_len hr1 fun x hx => hwi x (List.mem_of_mem_take ((hm1 x).1 hx))
  have hb2 := rise_len hr2 fun x hx => hwi x (List.mem_of_mem_drop ((hm2 x).1 hx))
  have MG := merge_any o1 o2 hr1 hr2 o1.length o2.length rfl rfl (by omega) vo1 vo2 vc1 vc2 w6 (PL.own ho1w.out rfl) (PL.own ho2'.out rfl)
  have hm12 := Lib.hid (show ∀ x, (x ∈ o1 ∨ x ∈ o2) ↔ x ∈ l from fun x => by
    rw [hm1, hm2]
    conv => rhs; rw [← List.take_append_drop h l, List.mem_append])
  have hf6 := Lib.hid (hf1'.out.then hf2'.out)
  have hlens : o1.length + o2.length ≤ n := by omega
  clear hm1 hm2 ho1w ho1' ho2' hr1 hr2
  go_wp2_with fail
  refine MG.mono ?_
  rintro e w7 ⟨v, mo, rfl, o, hown, hr, hm, _, hlen, hf7⟩
  have hres := Lib.hid (own_base (hf6.out.size) hown)
  have hm' := Lib.hid (fun x => (hm x).trans (hm12.out x))
  have hf7' := Lib.hid (hf6.out.then hf7)
  have hr' := Lib.hid hr
  have hlen' : o.length ≤ n := by omega
  clear MG hown hm hf7 hr
  go_wp2_with fail
  go_ret
  exact ⟨_, rfl, o, hres.out, hr'.out, hm'.out, hlen', hf7'.out⟩
theorem sorted_small (l : List (Nat × Nat)) (hl : l.length < 2) : SortedAt l := by
  intro n ao cap w hn hcap hsz hwi hPL
  have hn2 : (n : Int) < 2 := by omega
  obtain ⟨W, hW⟩ : ∃ W, W = w.alloc (.cells #[] 71) := ⟨_, rfl⟩
  have hfW : Far (fun _ => False) w W := hW ▸ (Far.refl _ w).alloc _
  have hO : W.ownsRow w.heap.size 71 2 (.slice (some ⟨w.heap.size, 0, none⟩) 0 0) 0 [] := hW ▸ World.ownsRow_made w #[] 0 (Nat.le_refl _) (by decide) (by simp)
  have hW' := Lib.hid hW
  have hfW' := Lib.hid hfW
  have hO' := Lib.hid hO
  clear hW hfW hO
  rcases l with _ | ⟨⟨a, b⟩, _ | ⟨y, l⟩⟩
  · obtain rfl : n = 0 := hn
    clear hPL
    go_enter Tryz.func67, Tryz.ntmps67
    obtain ⟨ci, hci, hz0, hz1, hz2⟩ := info_parts cellInfo
    go_wp2_with (at_builtin; rw [← hW'.out]; refine wpList_app_zero rfl _ _ 22 rfl w.heap.size 71 ci 2 Tryz.underlying22 hci (.slice (some ⟨w.heap.size, 0, none⟩) 0 0) 0 [] rfl hO'.out ao cap rfl ?_)
    go_ret
    exact ⟨_, rfl, [], hO'.out, List.Pairwise.nil, by simp, Nat.le_refl _, hfW'.out⟩
  · obtain rfl : n = 1 := hn
    have hPW := hPL.move hfW'.out
    obtain ⟨g, off, rfl, hg, c0, c1⟩ := hPW.at (k := 0) (x := a) (y := b) rfl
    obtain ⟨ci, hci, hz0, hz1, hz2⟩ := info_parts cellInfo
    have C7 := Lib.hid (show ∀ j u, [(.int .i64 (a : Nat) : Value), .int .i64 (b : Nat)][j]? = some u → W.cell? ((⟨g, off, none⟩ : Addr).add j) = some u from fun j u hj => by
      rw [add_none]
      match j, hj with
      | 0, hj => cases hj; simpa using c0
      | 1, hj => cases hj; simpa using c1
      | j + 2, hj => simp at hj)
    have C3 := Lib.hid (show ∀ u ∈ [(.int .i64 (a : Nat) : Value), .int .i64 (b : Nat)], u.oneCell' = true by simp [Value.oneCell'])
    have C6 : w.heap.size ≤ W.heap.size := hfW'.out.size
    clear hPL hPW c0 c1
    go_enter Tryz.func67, Tryz.ntmps67
    go_wp2_with (at_builtin; rw [← hW'.out]; refine wpList_append_own _ rfl _ _ 22 rfl w.heap.size 71 ci _ 2 16 Tryz.underlying22 hci hz0 hz1 hz2 rfl (by decide) (.slice (some ⟨w.heap.size, 0, none⟩) 0 0) 0 _ rfl hO'.out ⟨g, off, none⟩ 1 cap [.int .i64 (a : Nat), .int .i64 (b : Nat)] rfl rfl C7.out C3.out (by decide) (by decide) C6 ?_; intro v2 w6 ho6 hg6 hn6; have ho6' := Lib.hid ho6; have hg6' := Lib.hid hg6; clear ho6 hg6 hn6)
    go_ret
    exact ⟨_, rfl, [(a, b)], ho6'.out, List.pairwise_singleton _ _, by simp, Nat.le_refl _, hfW'.out.trans (grown_F hg6'.out) fun q hq e => by cases e; exact Nat.lt_irrefl _ hq⟩
  · simp at hl; omega
theorem sorted_any : ∀ (m : Nat) (l : List (Nat × Nat)), l.length ≤ m → SortedAt l
  | 0, l, h => sorted_small l (by omega)
  | m + 1, l, h => by
    by_cases h2 : l.length < 2
    · exact sorted_small l h2
    · exact sorted_big l (by omega) fun k hk => sorted_any m k (by omega)
end
end Go.Proofs.YtjolkhiggcmoiaaGreatDoor
