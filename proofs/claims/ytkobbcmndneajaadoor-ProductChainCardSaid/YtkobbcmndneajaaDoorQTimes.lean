/-
  The document's product of two matrices: first.
-/
import Derived.Test.YtkobbcmndneajaaDoorQDocM
import Derived.Test.YtkobbcmndneajaaDoorQIRow
import Derived.StillTailTactics
namespace Go.Proofs.YtkobbcmndneajaaDoor
open Go.RowKit Go.Shelf
set_option linter.unusedVariables false
set_option linter.unusedSimpArgs false
section
set_option maxHeartbeats 8000000
set_option maxRecDepth 100000
theorem rfirst_any {w : World} {v : Value} {s : Nat} {M : Nat → Nat → Bool} (hd : Dm w v s M) : Calls Tryd.prog 119 #[v] w fun e w' => ∃ g, e = .returned (.slice (some ⟨g, 0, none⟩) (s + 1) (s + 1)) ∧ w.heap.size ≤ g ∧ IRow w' g (s + 1) (fun r => (posM M s r : Nat)) ∧ Far (fun _ => False) w w' := by
  have hlen := hd.len
  obtain ⟨ao, cap, rfl, hP, hcap, hs, hw⟩ := hd
  obtain ⟨L, hL⟩ : ∃ L, cellsL M s = L := ⟨_, rfl⟩
  obtain ⟨n, hn⟩ : ∃ n, n = L.length := ⟨_, rfl⟩
  have hLw : ∀ x ∈ L, x.1 < s := fun x hx => by rw [← hL] at hx; exact (hw _ _ ((mem_cellsL hw).1 hx)).1
  rw [hL] at hP hlen ⊢
  rw [← hn] at hlen ⊢
  obtain ⟨h1, hh1⟩ : ∃ h, h = w.heap.size := ⟨_, rfl⟩
  obtain ⟨gI, hgI⟩ : ∃ h, h = h1 + 1 := ⟨_, rfl⟩
  obtain ⟨W0, hW0⟩ : ∃ V, V = w.alloc (.cells #[.int .i64 (s : Nat), .slice ao n cap] 28) := ⟨_, rfl⟩
  have hF0 : Far (fun _ => False) w W0 := hW0 ▸ (Far.refl _ w).alloc _
  have hB0 : Bk W0 h1 28 #[.int .i64 (s : Nat), .slice ao n cap] := hW0 ▸ Bk.new hh1
  have hz0 : W0.heap.size = gI := by rw [hW0, hgI, hh1]; simp
  obtain ⟨W1, hW1⟩ : ∃ V, V = W0.alloc (.cells (icells (s + 1) fun _ => 0) 3) := ⟨_, rfl⟩
  have hF1 : Far (fun _ => False) w W1 := hW1 ▸ hF0.alloc _
  have hB1 : Bk W1 h1 28 #[.int .i64 (s : Nat), .slice ao n cap] := hW1 ▸ hB0.alloc _
  have hI1 : IRow W1 gI (s + 1) (fun _ => 0) := hW1 ▸ Bk.new hz0.symm
  have hMK : (Instr.makeSlice 114 (.int .i64 ((s : Int) + 1)) (.int .i64 ((s : Int) + 1))).run Tryd.prog W0 = .ok (.slice (some ⟨gI, 0, none⟩) (s + 1) (s + 1)) W1 := by
    have := make_ints (s + 1) (by omega) W0
    rw [hz0, ← hW1] at this
    exact this
  have b0 : W0.cell? ⟨h1, 0, none⟩ = some (.int .i64 (s : Nat)) := hB0.cell 0
  have hPa : ∀ a, ao = some a → a.block < w.heap.size → a.block ≠ gI := fun a _ h => by omega
  have hP1 := Lib.hid (hP.move hF1)
  have hgl := Lib.hid (show ∀ g off, ao = some ⟨g, off, none⟩ → 0 < n → g < h1 from fun g off e h0 => by
    obtain ⟨g', off', e', hg', _⟩ := hP (by rw [← hn]; exact h0)
    rw [e] at e'; cases e'; omega)
  have hL' := Lib.hid hL
  have hn' := Lib.hid hn
  have hLw' := Lib.hid hLw
  have hw' := Lib.hid hw
  have hh1' := Lib.hid hh1
  have hgI' := Lib.hid hgI
  have hW0' := Lib.hid hW0
  have hW1' := Lib.hid hW1
  have hF1' := Lib.hid hF1
  have hB1' := Lib.hid hB1
  have hI1' := Lib.hid hI1
  have n1I : h1 ≠ gI := by omega
  clear hP hPa hL hn hLw hw hh1 hgI hW0 hW1 hF0 hF1 hB0 hB1 hI1 hz0
  go_enter Tryd.func119, Tryd.ntmps119
  go_upto_region 1 with fail
  rw [← hh1'.out, ← hW0'.out]
  go_wp2_with fail
  clear hMK b0
  go_loopw [4] (fun kv wr => ∃ k : Nat, k ≤ n ∧ kv = .int .i64 (k : Nat) ∧ IRow wr gI (s + 1) (fun r => (cntL L k r : Nat)) ∧ Far (fun q => q = gI) W1 wr) (fun kv _ => n - (intOf kv).toNat)
  case atStart => exact ⟨0, Nat.zero_le _, rfl, hI1'.out.congr fun j _ => by rw [cntL_zero]; rfl, Far.refl _ _⟩
  case round =>
    obtain ⟨k, hk, rfl, hI, hf⟩ := hrel
    have b1 : wr.cell? ⟨h1, 1, none⟩ = some (.slice ao n cap) := (hB1'.out.far' hf n1I).cell 1
    have b0 : wr.cell? ⟨h1, 0, none⟩ = some (.int .i64 (s : Nat)) := (hB1'.out.far' hf n1I).cell 0
    by_cases hlt : k < n
    · have hki : (k : Int) < (n : Int) := by omega
      obtain ⟨⟨a, b⟩, hx⟩ := atS (l := L) (k := k) (by rw [← hn'.out]; exact hlt)
      have has := hLw'.out _ (List.mem_of_getElem? hx)
      obtain ⟨g, off, rfl, hg, c0, c1⟩ := (hP1.out.kept hf fun a e h e2 => by
        obtain ⟨⟨ab, ao, asp⟩, rfl⟩ : ∃ a', a = a' := ⟨_, rfl⟩
        have e2 : ab = gI := e2
        obtain ⟨g9, o9, e9, hg9, _⟩ := hP1.out (by rw [← hn'.out]; omega)
        rw [e] at e9
        cases e9
        have h1 := hgl.out _ _ e (by omega)
        have := hgI'.out
        omega).at hx
      obtain ⟨c, hc⟩ : ∃ c, c = a + 1 := ⟨_, rfl⟩
      have hci : (a : Int) + 1 = (c : Int) := by omega
      have hcs : c < s + 1 := by simp only at has; omega
      have hcsi : (c : Int) < (s : Int) + 1 := by omega
      have d0 : wr.cell? ⟨gI, c, none⟩ = some (.int .i64 (cntL L k c : Nat)) := hI.at hcs
      have f0 : wr.frozen? ⟨gI, c, none⟩ = false := hI.free c
      have hstep := Lib.hid (cntL_step hx)
      have hcn := cntL_le L k c
      obtain ⟨x, hxx⟩ : ∃ x, cntL L k c = x := ⟨_, rfl⟩
      rw [hxx] at d0 hcn
      have hxx' := Lib.hid hxx
      have hc' := Lib.hid hc
      have hI' := Lib.hid hI
      have hf' := Lib.hid hf
      clear hx hxx hc hI hf has
      go_wp2_with fail
      go_roundw
      case rel =>
        refine ⟨k + 1, by omega, by go_num, (hI'.out.put c ((x : Int) + 1)).congr fun j hj => ?_, hf'.out.set ⟨gI, c, none⟩ _ fun _ => rfl⟩
        show setI (fun r => ((cntL L k r : Nat) : Int)) c ((x : Int) + 1) j = ((cntL L (k + 1) j : Nat) : Int)
        unfold setI
        rw [hstep.out j, ← hc'.out]
        by_cases e : j = c
        · subst e; rw [if_pos rfl, if_pos rfl, hxx'.out]; rfl
        · rw [if_neg e, if_neg e]
      case measure => simp only [intOf]; omega
    · have e : k = n := by omega
      subst e
      have hJ := Lib.hid (hI.congr (h := fun r => (sumA M s 0 r : Nat)) fun r hr => by
        show ((cntL L k r : Nat) : Int) = _
        rw [sumA_zero M (by omega), hL'.out, ← hn'.out])
      have hf' := Lib.hid hf
      clear hI hf b0
      go_wp2_with fail
      clear b1
      go_loopw [5] (fun iv wr => ∃ i : Nat, i ≤ s ∧ iv = .int .i64 (i : Nat) ∧ IRow wr gI (s + 1) (fun r => (sumA M s i r : Nat)) ∧ Far (fun q => q = gI) W1 wr) (fun iv _ => s - (intOf iv).toNat)
      case atStart => exact ⟨0, Nat.zero_le _, rfl, hJ.out, hf'.out⟩
      case round =>
        clear hJ hf'
        obtain ⟨i, hi, rfl, hI, hf⟩ := hrel
        have b0 : wr.cell? ⟨h1, 0, none⟩ = some (.int .i64 (s : Nat)) := (hB1'.out.far' hf n1I).cell 0
        by_cases hlt : i < s
        · have hii : (i : Int) < (s : Int) := by omega
          obtain ⟨c, hc⟩ : ∃ c, c = i + 1 := ⟨_, rfl⟩
          have hci : (i : Int) + 1 = (c : Int) := by omega
          have hcs : c < s + 1 := by omega
          have hcsi : (c : Int) < (s : Int) + 1 := by omega
          have hisi : (i : Int) < (s : Int) + 1 := by omega
          have his : i < s + 1 := by omega
          have d0 : wr.cell? ⟨gI, i, none⟩ = some (.int .i64 (sumA M s i i : Nat)) := hI.at his
          have d1 : wr.cell? ⟨gI, c, none⟩ = some (.int .i64 (sumA M s i c : Nat)) := hI.at hcs
          have f1 : wr.frozen? ⟨gI, c, none⟩ = false := hI.free c
          have hstep := Lib.hid (sumA_step M s i)
          have hb1 := sumA_le M (side := s) (i := i) (r := i) hs (by omega)
          have hb2 := sumA_le M (side := s) (i := i) (r := c) hs (by omega)
          obtain ⟨x, hx⟩ : ∃ x, sumA M s i c = x := ⟨_, rfl⟩
          obtain ⟨y, hy⟩ : ∃ y, sumA M s i i = y := ⟨_, rfl⟩
          rw [hx] at d1 hb2
          rw [hy] at d0 hb1
          have hwc : IntKind.i64.wrap (c : Int) = (c : Int) := by rw [IntKind.wrap_i64]; omega
          have hwz : IntKind.i64.wrap ((x : Int) + (y : Int)) = (x : Int) + (y : Int) := by rw [IntKind.wrap_i64]; omega
          have hx' := Lib.hid hx
          have hy' := Lib.hid hy
          have hc' := Lib.hid hc
          have hI' := Lib.hid hI
          have hf' := Lib.hid hf
          clear hx hy hc hI hf
          go_upto_region 9 with fail
          go_still_tail 14, (by kernel_rfl)
          go_wp2_with fail
          go_roundw
          case rel =>
            refine ⟨c, by have := hc'.out; omega, rfl, ?_, (hf'.out.set ⟨gI, c, none⟩ _ fun _ => rfl).drew⟩
            refine IRow.congr (f := setI (fun r => (sumA M s i r : Nat)) c ((x : Int) + (y : Int))) (hI'.out.put c ((x : Int) + (y : Int)) : IRow (wr.setCell ⟨gI, c, none⟩ (.int .i64 ((x : Int) + (y : Int)))) gI (s + 1) _) fun j hj => ?_
            unfold setI
            rw [hc'.out, hstep.out j]
            by_cases e : j = i + 1
            · subst e
              rw [if_pos rfl, if_pos rfl, ← hc'.out, hx'.out, hy'.out]
              omega
            · rw [if_neg e, if_neg e]
          case measure => simp only [intOf]; have := hc'.out; omega
        · have e : i = s := by omega
          subst e
          have hJ := Lib.hid (hI.congr (h := fun r => (posM M i r : Nat)) fun r hr => by
            show ((sumA M i i r : Nat) : Int) = _
            rw [sumA_all M (by omega)])
          have hf' := Lib.hid hf
          clear hI hf
          go_wp2_with fail
          go_ret
          exact ⟨gI, rfl, by have := hgI'.out; have := hh1'.out; omega, hJ.out, hF1'.out.trans hf'.out fun q hq e => by have := hgI'.out; have := hh1'.out; omega⟩
end
end Go.Proofs.YtkobbcmndneajaaDoor
