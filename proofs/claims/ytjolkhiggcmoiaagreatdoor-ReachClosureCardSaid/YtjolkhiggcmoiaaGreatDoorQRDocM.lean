/-
  QRDocM: QRNext, QRReached, QRClose, QRFromD, QGridArg5, QMd05.
-/
import Derived.Test.YtjolkhiggcmoiaaGreatDoorQRowOf
import Derived.Test.YtjolkhiggcmoiaaGreatDoorQRFromM
import Derived.Test.YtjolkhiggcmoiaaGreatDoorQDoc
import Derived.Deep.RegionHeld3
import Derived.Deep.LoopGhost
import Derived.Test.YtjolkhiggcmoiaaGreatDoorQDocM
import Derived.Test.YtjolkhiggcmoiaaGreatDoorQIRow
import Derived.StillTailTactics
import Derived.Test.YtjolkhiggcmoiaaGreatDoorQHasP
import Derived.Test.YtjolkhiggcmoiaaGreatDoorQLaws
import Derived.Deep.Slices
import Derived.Deep.Fields
import Derived.ChangeMaps5
import Derived.Test.YtjolkhiggcmoiaaGreatDoorQHas
/-! ## QRNext: The document's: each row's columns. -/
namespace Go.Proofs.YtjolkhiggcmoiaaGreatDoor
open Go.RowKit Go.Shelf
set_option linter.unusedVariables false
set_option linter.unusedSimpArgs false
def rcells (s : Nat) (V : Nat → Value) : Array Value := Array.ofFn (n := s) fun i => V i
theorem rcells_get (s : Nat) (V : Nat → Value) (i : Nat) (h : i < s) : (rcells s V)[i]? = some (V i) := by simp [rcells, h]
theorem rcells_set (s : Nat) (V : Nat → Value) (r : Nat) (v : Value) : (rcells s V).setIfInBounds r v = rcells s (updV V r v) := by
  apply Array.ext_getElem?
  intro j
  rw [Array.getElem?_setIfInBounds]
  by_cases e : r = j
  · subst e
    by_cases hj : r < s <;> simp [rcells, updV, hj]
  · have e' : ¬ j = r := fun h => e h.symm
    by_cases hj : j < s <;> simp [rcells, updV, hj, e, e']
def updN (L : Nat → List Nat) (r x : Nat) : Nat → List Nat := fun a => if a = r then L a ++ [x] else L a
/-- Rows of numbers, each of the call's own. -/
structure RN (b g s : Nat) (V : Nat → Value) (L : Nat → List Nat) (w : World) : Prop where
  box : Bk w g 30 (rcells s V)
  own : ∀ r, r < s → w.ownsRow b 3 1 (V r) (L r).length (ncells (L r))
  dist : ∀ r q, r < s → q < s → r ≠ q → ∀ k, (V r).ownBlock = some k → (V q).ownBlock ≠ some k
section
variable {b g s : Nat} {V : Nat → Value} {L : Nat → List Nat} {w w' : World}
theorem RN.still (h : RN b g s V L w) (hf : Far (fun _ => False) w w') : RN b g s V L w' := ⟨h.box.far' hf id, fun r hr => row_same (h.own r hr) fun k _ hl => hf.block k hl id, h.dist⟩
theorem RN.at (h : RN b g s V L w) {r : Nat} (hr : r < s) : w.cell? ⟨g, r, none⟩ = some (V r) := (h.box.cell r).trans (rcells_get s V r hr)
theorem RN.congr {L' : Nat → List Nat} (h : RN b g s V L w) (e : ∀ r, r < s → L' r = L r) : RN b g s V L' w := ⟨h.box, fun r hr => by rw [e r hr]; exact h.own r hr, h.dist⟩
theorem RN.push {W5 : World} {i x n fg fc : Nat} (h : RN b g s V L w) (hi : i < s) (hn : (L i).length = n) (hown : W5.ownsRow b 3 1 (.slice (some ⟨fg, 0, none⟩) (n + 1) fc) (n + 1) (ncells (L i) ++ [.int .i64 (x : Nat)])) (hg : w.grownBy W5 (V i).ownBlock) (hat : (V i).ownBlock = some fg ∨ w.heap.size ≤ fg) :
    RN b g s (updV V i (.slice (some ⟨fg, 0, none⟩) (n + 1) fc)) (updN L i x) (W5.setCell ⟨g, i, none⟩ (.slice (some ⟨fg, 0, none⟩) (n + 1) fc)) := by
  have nb : ∀ r, r < s → ∀ k, (V r).ownBlock = some k → k ≠ g := fun r hr k hk e => by
    obtain ⟨_, _, cs, hb⟩ := own_type (h.own r hr) hk
    subst e
    have := bk_type hb h.box
    revert this
    decide
  have fgg : fg ≠ g := fun e => by
    have hgb : Bk W5 g 30 (rcells s V) := h.box.grownR hg fun e2 => nb i hi g e2.symm rfl
    obtain ⟨_, _, cs, hb⟩ := own_type hown rfl
    subst e
    have := bk_type hb hgb
    revert this
    decide
  refine ⟨?_, fun r hr => ?_, fun r q hr hq hne k hk => ?_⟩
  · have := (h.box.grownR hg fun e2 => nb i hi g e2.symm rfl).set i (.slice (some ⟨fg, 0, none⟩) (n + 1) fc)
    rw [rcells_set] at this
    exact this
  · unfold updV updN
    by_cases e : r = i
    · subst e
      rw [if_pos rfl, if_pos rfl, List.length_append, List.length_singleton, hn, ncells_snoc]
      exact row_same hown fun k hk hl => heap_setCell_other _ _ _ _ fun e => by
        cases hk
        exact fgg e
    · rw [if_neg e, if_neg e]
      have h1 := row_same (h.own r hr) (w' := W5) fun k hk hl => hg.block k hl fun e2 => h.dist r i hr hi e k hk e2.symm
      exact row_same h1 fun k hk hl => heap_setCell_other _ _ _ _ fun e => nb r hr k hk e
  · unfold updV at hk ⊢
    by_cases e : r = i
    · subst e
      rw [if_pos rfl] at hk
      rw [if_neg (fun e => hne e.symm)]
      cases hk
      intro hq2
      rcases hat with e2 | e2
      · exact h.dist r q hr hq hne _ e2 hq2
      · have h3 : fg < w.heap.size := ((h.own q hq).lt _ hq2).2
        omega
    · rw [if_neg e] at hk
      by_cases e2 : q = i
      · subst e2
        rw [if_pos rfl]
        intro e3
        cases e3
        rcases hat with e4 | e4
        · exact h.dist r q hr hq hne _ hk e4
        · have h3 : fg < w.heap.size := ((h.own r hr).lt _ hk).2
          omega
      · rw [if_neg e2]
        exact h.dist r q hr hq hne k hk
end
theorem sl_row : (Tryz.prog.info? 30).map (fun i => (i.zero, i.size, i.bytes)) = some (some (.slice none 0 0), 1, 24) := by kernel_rfl
theorem made_rows (s : Nat) : madeCells (Value.slice none 0 0).cells (s * 1) = rcells s (fun _ => .slice none 0 0) := by
  apply Array.ext
  · simp [rcells, madeCells]
  · intro j h1 h2
    simp [rcells, madeCells, Value.cells, Nat.mod_one]
theorem make_rows (s : Nat) (hs : s ≤ 1000000) (w : World) : (Instr.makeSlice 80 (.int .i64 (s : Int)) (.int .i64 (s : Int))).run Tryz.prog w = .ok (.slice (some ⟨w.heap.size, 0, none⟩) s s) (w.alloc (.cells (rcells s fun _ => .slice none 0 0) 30)) := by
  obtain ⟨i, hi, hz, h1, h2⟩ := info_parts sl_row
  have := run_make (P := Tryz.prog) w 80 30 i (.slice none 0 0) Tryz.underlying80 hi hz .i64 .i64 (s : Int) (s : Int) (by omega) (Int.le_refl _) (by rw [h2]; omega) (by omega)
  rw [Int.toNat_natCast, h1, made_rows] at this
  exact this
theorem RN.start {w : World} {s : Nat} : RN w.heap.size w.heap.size s (fun _ => .slice none 0 0) (fun _ => []) (w.alloc (.cells (rcells s fun _ => .slice none 0 0) 30)) := ⟨Bk.new rfl, fun r hr => World.ownsRow_nil _ _ _ _, fun r q _ _ _ k hk => by cases hk⟩
section
set_option maxHeartbeats 8000000
set_option maxRecDepth 100000
theorem rnext_any {w : World} {v : Value} {s : Nat} {M : Nat → Nat → Bool} (hm : Dm w v s M) : Calls Tryz.prog 35 #[v] w fun e w' => ∃ b g, e = .returned (.slice (some ⟨g, 0, none⟩) s s) ∧ (∃ V, RN b g s V (colsM M s) w') ∧ w.heap.size ≤ b ∧ w.heap.size ≤ g ∧ Far (fun _ => False) w w' := by
  have hlen := hm.len
  obtain ⟨ao, cap, rfl, hP, hcap, hs, hw⟩ := hm
  have hcols := fun (i : Nat) (hi : i < s) => rowOf_cols M hi
  have hrow := fun (x : Nat × Nat) (hx : x ∈ cellsL M s) => (hw _ _ ((mem_cellsL hw).1 hx)).1
  obtain ⟨L, hL⟩ : ∃ L, cellsL M s = L := ⟨_, rfl⟩
  rw [hL] at hP hcap hlen hcols hrow ⊢
  obtain ⟨n, hn⟩ : ∃ n, L.length = n := ⟨_, rfl⟩
  rw [hn] at hcap hlen ⊢
  obtain ⟨h1, hh1⟩ : ∃ h, h = w.heap.size := ⟨_, rfl⟩
  obtain ⟨W0, hW0⟩ : ∃ V, V = w.alloc (.cells #[.int .i64 (s : Nat), .slice ao n cap] 27) := ⟨_, rfl⟩
  have hF0 : Far (fun _ => False) w W0 := hW0 ▸ (Far.refl _ w).alloc _
  have hB2 : Bk W0 h1 27 #[.int .i64 (s : Nat), .slice ao n cap] := hW0 ▸ Bk.new hh1
  have HB := Lib.hid (show ∀ V, Far (fun _ => False) W0 V → (V.cell? ⟨h1, 0, none⟩ = some (.int .i64 (s : Nat)) ∧ V.cell? ⟨h1, 1, none⟩ = some (.slice ao n cap)) ∧ PL V ao L ∧ h1 < V.heap.size from fun V hf => ⟨⟨(hB2.far' hf id).cell 0, (hB2.far' hf id).cell 1⟩, hP.move (hF0.then hf), (hB2.far' hf id).lt⟩)
  obtain ⟨⟨z20, z21⟩, _, z1⟩ := HB.out W0 (Far.refl _ _)
  have MK := make_rows s (by omega) W0
  have RS := RN.start (w := W0) (s := s)
  obtain ⟨g, hg⟩ : ∃ g, g = W0.heap.size := ⟨_, rfl⟩
  obtain ⟨W2, hW2⟩ : ∃ V, V = W0.alloc (.cells (rcells s fun _ => .slice none 0 0) 30) := ⟨_, rfl⟩
  rw [← hg, ← hW2] at MK RS
  have hF2 : Far (fun _ => False) W0 W2 := hW2 ▸ (Far.refl _ W0).alloc _
  have hwg := hF0.size
  have hn' := Lib.hid hn
  have hcols' := Lib.hid hcols
  have hrow' := Lib.hid hrow
  have hW0' := Lib.hid hW0
  have hF0' := Lib.hid hF0
  have hh1' := Lib.hid hh1
  have hg' := Lib.hid hg
  have hF2' := Lib.hid hF2
  have RS' := Lib.hid RS
  have hwg' := Lib.hid hwg
  clear hP hL hn hw hcols hW0 hF0 hB2 hh1 hrow hg hW2 hF2 RS hwg
  go_enter Tryz.func35, Tryz.ntmps35
  go_upto_region 1 with fail
  rw [← hh1'.out, ← hW0'.out]
  go_wp2_with fail
  clear z20 z21 z1
  go_loopw [4] (fun kv wr => ∃ (k : Nat) (V : Nat → Value), k ≤ n ∧ kv = .int .i64 (k : Nat) ∧ RN g g s V (rowOf (L.take k)) wr ∧ Far (fun _ => False) W0 wr) (fun kv _ => n - (intOf kv).toNat)
  case atStart => exact ⟨0, _, Nat.zero_le _, rfl, RS'.out.congr fun r hr => by simp [rowOf], hF2'.out⟩
  case round =>
    obtain ⟨k, V, hk, rfl, hR, hf⟩ := hrel
    obtain ⟨wd, hwd⟩ : ∃ wd, wd = wr := ⟨_, rfl⟩
    rw [← hwd] at hR hf ⊢
    clear hwd
    obtain ⟨⟨b20, b21⟩, hPd, b1⟩ := HB.out wd hf
    by_cases hlt : k < n
    · have hki : (k : Int) < (n : Int) := by omega
      have hkb : (k : Int) + 1 ≤ 9223372036854775807 := by omega
      have hk0 : (0 : Int) ≤ (k : Int) := by omega
      obtain ⟨⟨r, c⟩, hx⟩ := atS (l := L) (k := k) (by rw [hn'.out]; exact hlt)
      obtain ⟨ga, oa, rfl, hga, pa0, pa1⟩ := hPd.at hx
      have hrs : r < s := hrow'.out _ (List.mem_of_getElem? hx)
      have hrsi : (r : Int) < (s : Int) := by omega
      have hst : ∀ i, i < s → rowOf (L.take (k + 1)) i = updN (rowOf (L.take k)) r c i := fun i _ => by
        rw [rowOf_step (i := i) hx]
        unfold updN
        by_cases e : r = i
        · subst e; simp
        · rw [if_neg e, if_neg fun h => e h.symm]
      obtain ⟨m, hm⟩ : ∃ m, (rowOf (L.take k) r).length = m := ⟨_, rfl⟩
      have hmm : m ≤ 1048576 := by
        have h1 := rowOf_le (L.take k) r
        have h2 := List.length_take_le k L
        rw [← hm]
        omega
      have hO := hR.own r hrs
      rw [hm] at hO
      obtain ⟨vo, vc, hVr⟩ := q_form hO
      have hcr := hR.at hrs
      rw [hVr] at hcr hO
      have hgl := hR.box.lt
      have fzg := hR.box.free r
      obtain ⟨inf, hinf, hz0, hz1, hz2⟩ := info_parts int_infoF
      have A1 := Lib.hid (show (wd.alloc (.cells #[.int .i64 (c : Nat)] 3)).drew.ownsRow g 3 1 (.slice vo m vc) m (ncells (rowOf (L.take k) r)) from hO.alloc _)
      have A2 := Lib.hid (World.news_of_block (w := (wd.alloc (.cells #[.int .i64 (c : Nat)] 3)).drew) (cs := #[.int .i64 (c : Nat)]) (t := 3) (fr := (0, 0)) (heap_alloc_new wd _))
      have A3 : ∀ u ∈ [Value.int .i64 (c : Nat)], u.oneCell' = true := by simp [Value.oneCell']
      have A4 : m + 1 ≤ maxLen := by unfold maxLen; omega
      have A5 : (m + 1) * 8 ≤ 140737488355328 := by omega
      have A6 : 0 < 1 := Nat.one_pos
      have A8 : g ≤ (wd.alloc (.cells #[.int .i64 (c : Nat)] 3)).drew.heap.size := by simp [World.drew]; omega
      have hR' := Lib.hid hR
      have hf' := Lib.hid hf
      have hm' := Lib.hid hm
      have hVr' := Lib.hid hVr
      have hst' := Lib.hid hst
      clear hR hf hm hVr hO hst hx hPd
      go_upto_region 6 with fail
      go_region_law (refine step_append_lies _ rfl (.tmp 27) (.tmp 34) 30 rfl g 3 inf _ 1 8 Tryz.underlying30 hinf hz0 hz1 hz2 rfl A6 (.slice vo m vc) m _ rfl A1.out ⟨wd.heap.size, 0, none⟩ 1 1 _ rfl rfl A2.out A3 A6 A4 A5 A8 _ rfl ?_; intro fg fcap' w5 ho5 hg5 hat5 hl5; have hb5 := Bk.grownR (w := (wd.alloc (.cells #[.int .i64 (c : Nat)] 3)).drew) (Bk.alloc hR'.out.box _) hg5 (fun e => absurd (own_type (hVr'.out ▸ hR'.out.own r hrs) e.symm) (fun ⟨_, _, cs, hb⟩ => absurd (bk_type hb hR'.out.box) (by decide))); have u1 := hb5.free r; have u2 := (hb5.cell r).trans (rcells_get s V r hrs); have ho5' := Lib.hid ho5; have hg5' := Lib.hid hg5; have hat5' := Lib.hid hat5; clear ho5 hg5 hat5 hb5)
      all_goals
        have hgw := A8
        obtain ⟨W6, hW6⟩ : ∃ W, W = w5.setCell ⟨g, r, none⟩ (.slice (some ⟨fg, 0, none⟩) (m + 1) fcap') := ⟨_, rfl⟩
        have hRa : RN g g s V (rowOf (L.take k)) (wd.alloc (.cells #[.int .i64 (c : Nat)] 3)).drew := hR'.out.still ((Far.refl _ wd).alloc _).drew
        have hR6 : RN g g s (updV V r (.slice (some ⟨fg, 0, none⟩) (m + 1) fcap')) (updN (rowOf (L.take k)) r c) W6 := by
          rw [hW6]
          refine hRa.push hrs hm'.out ho5'.out ?_ ?_
          · rw [hVr'.out]; exact hg5'.out
          · rw [hVr'.out]
            rcases hat5'.out with e | e
            · exact .inl e
            · exact .inr (by rw [e]; exact Nat.le_refl _)
        have hf6 : Far (fun _ => False) W0 W6 := by
          rw [hW6]
          refine (hf'.out.trans ((((Far.refl (fun q => q = g ∨ (Value.slice vo m vc).ownBlock = some q) wd).alloc _).drew.grown hg5'.out fun q _ e => .inr e).set _ _ fun _ => .inl rfl) fun q hq e => ?_)
          rcases e with rfl | e
          · have := hg'.out; omega
          · have h3 : g ≤ q := ((hR'.out.own r hrs).lt q (hVr'.out ▸ e)).1
            have := hg'.out; omega
        have hR6' := Lib.hid (hR6.congr fun i hi => (hst'.out i hi))
        have hf6' := Lib.hid hf6
        rw [← hW6]
        clear hW6 hRa hR6 hf6 u1 u2 pa0 pa1 b20 b21 hcr fzg
        go_wp2_with fail
        exact ⟨⟨k + 1, _, by omega, by go_num, hR6'.out, hf6'.out⟩, by simp only [intOf]; omega⟩
    · obtain rfl : n = k := by omega
      have hki : ¬ (n : Int) < (n : Int) := by omega
      have htk : L.take n = L := by rw [← hn'.out, List.take_length]
      rw [htk] at hR
      have hR' := Lib.hid hR
      have hf' := Lib.hid hf
      clear hR hf htk hPd
      go_wp2_with fail
      go_ret
      exact ⟨g, g, rfl, ⟨V, hR'.out.congr fun i hi => (hcols'.out i hi).symm⟩, by have := hwg'.out; have := hg'.out; omega, by have := hwg'.out; have := hg'.out; omega, hF0'.out.then hf'.out⟩
end
end Go.Proofs.YtjolkhiggcmoiaaGreatDoor
/-! ## QRReached: The document's: what is reached, by each row's columns. -/
namespace Go.Proofs.YtjolkhiggcmoiaaGreatDoor
open Go.RowKit Go.Shelf
set_option linter.unusedVariables false
set_option linter.unusedSimpArgs false
theorem own_numsD {w : World} {base : Nat} {e : TypeId} {ao : Option Addr} {n cap k x : Nat} {X : List Nat} (h : w.ownsRow base e 1 (.slice ao n cap) n (ncells X)) (hk : X[k]? = some x) : ∃ g, ao = some ⟨g, 0, none⟩ ∧ base ≤ g ∧ g < w.heap.size ∧ k < n ∧ w.cell? ⟨g, k, none⟩ = some (.int .i64 (x : Int)) := by
  have hl := h.1
  have hk2 := (List.getElem?_eq_some_iff.1 hk).1
  rw [ncells_len] at hl
  rcases h.2 with ⟨h0, hn⟩ | ⟨g, cap', cur, hv, hb, hh, h1, h2, h3, h4⟩
  · omega
  · injection hv with e1 e2 e3
    subst e1
    exact ⟨g, rfl, hb, (Array.getElem?_eq_some_iff.1 hh).1, by omega, nat_row h hk⟩
section
set_option maxHeartbeats 8000000
set_option maxRecDepth 100000
theorem rreached_any {w : World} {b g s i : Nat} {V : Nat → Value} {M C : Nat → Nat → Bool} (hR : RN b g s V (colsM M s) w) (hs : s ≤ 1024) (hw : ∀ r c, M r c = true → r < s ∧ c < s) (hC : IsClo M C) (hi : i < s) :
    Calls Tryz.prog 34 #[.slice (some ⟨g, 0, none⟩) s s, .int .i64 (i : Nat)] w fun e w' => ∃ gm, e = .returned (.slice (some ⟨gm, 0, none⟩) s s) ∧ BRow w' gm s (fun c => C i c) ∧ w.heap.size ≤ gm ∧ Far (fun _ => False) w w' := by
  have MK := make_bools s (by omega) w
  obtain ⟨gm, hgm⟩ : ∃ g, g = w.heap.size := ⟨_, rfl⟩
  obtain ⟨W1, hW1⟩ : ∃ V, V = w.alloc (.cells (bcells s fun _ => false) 4) := ⟨_, rfl⟩
  rw [← hgm, ← hW1] at MK
  have hf1 : Far (fun _ => False) w W1 := hW1 ▸ (Far.refl _ w).alloc _
  have hb1 : BRow W1 gm s (fun _ => false) := hW1 ▸ Bk.new hgm
  have hgl := Bk.lt hb1
  obtain ⟨inf, hinf, hz0, hz1, hz2⟩ := info_parts int_infoF
  have A1 := Lib.hid (World.ownsRow_nil (W1.alloc (.cells #[.int .i64 (i : Nat)] 3)) W1.heap.size 3 1)
  have A2 := Lib.hid (World.news_of_block (w := W1.alloc (.cells #[.int .i64 (i : Nat)] 3)) (cs := #[.int .i64 (i : Nat)]) (t := 3) (fr := (0, 0)) (heap_alloc_new W1 _))
  have A3 : ∀ u ∈ (#[.int .i64 (i : Nat)] : Array Value).toList, u.oneCell' = true := fun u hu => by simp at hu; subst hu; rfl
  have A7 : W1.heap.size ≤ (W1.alloc (.cells #[.int .i64 (i : Nat)] 3)).heap.size := by simp
  have hR' := Lib.hid hR
  have hw' := Lib.hid hw
  have hC' := Lib.hid hC
  have hf1' := Lib.hid hf1
  have hb1' := Lib.hid hb1
  have hgm' := Lib.hid hgm
  have hW1' := Lib.hid hW1
  clear hR hw hC hf1 hb1 hgm hW1
  go_enter Tryz.func34, Tryz.ntmps34
  go_wp2_with (at_builtin; refine wpList_append_lies _ rfl _ _ 30 rfl W1.heap.size 3 inf _ 1 8 Tryz.underlying30 hinf hz0 hz1 hz2 rfl (by decide) (.slice none 0 0) 0 _ rfl A1.out ⟨W1.heap.size, 0, none⟩ 1 1 (#[.int .i64 (i : Nat)] : Array Value).toList rfl rfl A2.out A3 (by decide) (by decide) (by decide) A7 _ rfl ?_; intro fg fc w3 ho3 hg3 hat3 hl3; have ho3' := Lib.hid ho3; have hg3' := Lib.hid hg3; have hat3' := Lib.hid hat3; clear ho3 hg3 hat3)
  have h31 : W1.heap.size ≤ fg := by
    rcases hat3'.out with e | e
    · cases e
    · rw [e, World.size_alloc]; omega
  have hf3 : Far (fun _ => False) W1 w3 := ((Far.refl _ W1).alloc _).grown hg3'.out fun k _ e => by cases e
  have hf3' := Lib.hid (hf1'.out.then hf3)
  have hb3' := Lib.hid (show BRow w3 gm s (fun _ => false) from Bk.far' hb1'.out hf3 id)
  clear hb1' hf3 MK A3 A7 hgl
  go_loopg [6] (2 * unm s (fun _ => false) + 1) (fun m lv wr => ∃ (g2 cap n : Nat) (l : List Nat) (G : Nat → Bool), lv = .slice (some ⟨g2, 0, none⟩) n cap ∧ wr.ownsRow W1.heap.size 3 1 lv n (ncells l) ∧ m = 2 * unm s G + n ∧ m ≤ 2 * s + 1 ∧ FS s i (fun _ => false) (fun _ => false) (fun x => colsM M s x) l G none 0 ∧ BRow wr gm s G ∧ Far (fun _ => False) w wr)
  case atStart =>
    have hu := unm_le s (fun _ => false)
    exact ⟨fg, fc, 1, [i], fun _ => false, rfl, ho3'.out, rfl, by omega, FS.start hi, hb3'.out, hf3'.out⟩
  case round =>
    clear ho3' hg3' hat3' hf3' hb3' h31
    obtain ⟨g2, cap, n, l, G, rfl, hO, hm, hm2, hS, hB, hF⟩ := hrel
    have HO := Lib.hid hO
    have HM := Lib.hid hm
    have HS := Lib.hid hS
    have HB := Lib.hid hB
    have HF := Lib.hid hF
    obtain ⟨wo, hwo⟩ : ∃ wo, wo = wr := ⟨_, rfl⟩
    rw [← hwo] at HO HB HF ⊢
    clear hO hm hS hB hF hwo
    by_cases hn : n = 0
    · have hL : l = [] := List.eq_nil_of_length_eq_zero (by have := HO.out.1; rw [hn] at this; simpa [ncells] using this)
      subst hn
      subst hL
      have hG := met_clo (M := M) (G := G) (i := i) (fun x hx j hj => by
        rcases HS.out.done x (hx.imp id fun e => ⟨e, rfl⟩) with h | h | h
        · cases h
        · cases h
        · exact (h j (mem_colsM.2 ⟨(hw'.out _ _ hj).2, hj⟩)).resolve_left (by simp)) (fun x hx => by
        have hall := HS.out.reach (fun y => y = i ∨ TC M i y) (.inl rfl) (fun a b ha hb => by
          have hab := (mem_colsM.1 hb).2
          rcases ha with rfl | ha
          · exact .inr (.one hab)
          · exact .inr (ha.trans (.one hab)))
        obtain ⟨a, ha, hb⟩ := HS.out.step x hx rfl
        have hab := (mem_colsM.1 hb).2
        have : a = i ∨ TC M i a := ha.elim .inl fun ha => hall a (.inr (.inr ha))
        rcases this with rfl | ha
        · exact .one hab
        · exact ha.trans (.one hab))
      have hB2 : BRow wo gm s (fun c => C i c) := BRow.congr HB.out fun c _ => by
        rw [Bool.eq_iff_iff, hG, hC'.out i c]
      have hB2' := Lib.hid hB2
      clear hG hB2
      go_wp2_with fail
      go_ret
      exact ⟨gm, rfl, hB2'.out, by rw [hgm'.out]; exact Nat.le_refl _, HF.out⟩
    · obtain ⟨q, rfl⟩ : ∃ q, n = q + 1 := ⟨n - 1, by omega⟩
      obtain ⟨l, x, rfl⟩ : ∃ (l' : List Nat) (x : Nat), l = l' ++ [x] := by
        have hl := HO.out.1
        simp [ncells] at hl
        exact ⟨l.dropLast, l.getLast (by intro e; subst e; simp at hl), (List.dropLast_concat_getLast _).symm⟩
      have hO : wo.ownsRow W1.heap.size 3 1 (.slice (some ⟨g2, 0, none⟩) (q + 1) cap) (q + 1) (ncells l ++ [.int .i64 (x : Int)]) := by have := HO.out; rwa [ncells_snoc] at this
      have hcq := last_row hO
      have HQ := Lib.hid (cut_row hO)
      have hqc : q + 1 ≤ cap := row_room hO
      have hqc2 : q ≤ cap := by omega
      have hc0 : ¬ cap = 0 := by omega
      have hq : q ≤ 2050 := by have := HM.out; omega
      have hpos : (0 : Int) < ((q + 1 : Nat) : Int) := by omega
      have HP := Lib.hid HS.out.pop
      have hxs : x < s := (HS.out.pop.here x rfl).1
      obtain ⟨N, hN⟩ : ∃ N, (colsM M s x).length = N := ⟨_, rfl⟩
      have hN1024 := Lib.hid (show N ≤ 1024 by rw [← hN]; exact Nat.le_trans (colsM_le _ _ _) hs)
      have hxs' := Lib.hid hxs
      have hRx := hR'.out.own x hxs
      rw [hN] at hRx
      obtain ⟨vo, vc, hVx⟩ := q_form hRx
      rw [hVx] at hRx
      have hRx' := Lib.hid hRx
      have hVx' := Lib.hid hVx
      have hN' := Lib.hid hN
      clear hO HO HS hRx hVx hN
      clear hxs
      have hwq : wrap64 (q : Int) = q := by simp only [wrap64]; omega
      go_upto_region 8 with fail
      clear hwq hcq hpos hqc hqc2 hc0
      have hN1024 := hN1024.out
      have hxs := hxs'.out
      have hxi : (x : Int) < (s : Int) := by omega
      go_loopw [6, 8] (fun lv iv wr => ∃ (g2 cap n p : Nat) (l : List Nat) (G : Nat → Bool), lv = .slice (some ⟨g2, 0, none⟩) n cap ∧ iv = .int .i64 (p : Nat) ∧ p ≤ N ∧ wr.ownsRow W1.heap.size 3 1 lv n (ncells l) ∧ 2 * unm s G + n < gk ∧ FS s i (fun _ => false) (fun _ => false) (fun x => colsM M s x) l G (some x) p ∧ BRow wr gm s G ∧ Far (fun _ => False) w wr) (fun _ iv _ => N - (intOf iv).toNat)
      case atStart => exact ⟨g2, cap, q, 0, l, G, rfl, rfl, by omega, HQ.out, by have := HM.out; omega, HP.out, HB.out, HF.out⟩
      case round =>
        clear HB HF HQ HP HM hq
        obtain ⟨g2, cap, n, p, l, G, rfl, rfl, hp, hO, hm, hS, hB, hF⟩ := hrel
        have HO := Lib.hid hO
        have HM := Lib.hid hm
        have HS := Lib.hid hS
        have HB := Lib.hid hB
        have HF := Lib.hid hF
        have hRw := hR'.out.still hF
        have hcx := hRw.at hxs
        rw [hVx'.out] at hcx
        obtain ⟨wi, hwi⟩ : ∃ wi, wi = wr := ⟨_, rfl⟩
        rw [← hwi] at HO HB HF hcx hRw ⊢
        clear hO hm hS hB hF hwi
        have hgl2 := hRw.box.lt
        by_cases hpN : p < N
        · have hpi : (p : Int) < (N : Int) := by omega
          have hpb : (p : Int) + 1 ≤ 9223372036854775807 := by omega
          obtain ⟨j, hj⟩ : ∃ j, (colsM M s x)[p]? = some j := ⟨_, List.getElem?_eq_getElem (by rw [hN'.out]; exact hpN)⟩
          have hOx := hRw.own x hxs
          rw [hN'.out, hVx'.out] at hOx
          obtain ⟨g3, rfl, _, hg3, _, hcj⟩ := own_numsD hOx hj
          have hjs : j < s := (mem_colsM.1 (List.mem_of_getElem? hj)).1
          have hji : (j : Int) < (s : Int) := by omega
          have hcm := BRow.get HB.out j hjs
          have HT := Lib.hid (HS.out.turn hj hjs)
          clear hj HS hOx hRw
          cases hb : G j with
          | true =>
            rw [hb] at hcm
            have hb2 : ((fun _ : Nat => false) j || G j) = true := by simp [hb]
            rw [if_pos hb2, addG_old hb2] at HT
            clear hb2
            go_wp2_with fail
            exact ⟨⟨g2, cap, n, p + 1, l, G, rfl, by go_num, by omega, HO.out, HM.out, HT.out, HB.out, HF.out⟩, by simp only [intOf]; omega⟩
          | false =>
            rw [hb] at hcm
            have hb2 : ((fun _ : Nat => false) j || G j) = false := by simp [hb]
            rw [if_neg (by rw [hb2]; simp)] at HT
            have hum := Lib.hid (unm_add (B := fun _ => false) (G := G) hjs hb2)
            have hB2 : addG (fun _ => false) G j = setB G j := funext fun r => by
              rw [Bool.eq_iff_iff, addG_iff]
              unfold setB
              split
              · rename_i e; exact ⟨fun _ => rfl, fun _ => .inr ⟨e, rfl⟩⟩
              · rename_i e; exact ⟨fun h => h.elim id fun h => absurd h.1 e, fun h => .inl h⟩
            have hfr := BRow.free HB.out j
            obtain ⟨W2, hW2⟩ : ∃ W, W = wi.setCell ⟨gm, j, none⟩ (.bool true) := ⟨_, rfl⟩
            have hbw : BRow W2 gm s (addG (fun _ => false) G j) := by rw [hB2, hW2]; exact BRow.put HB.out j
            have hfw : Far (fun k => k = gm) wi W2 := hW2 ▸ (Far.refl (fun k => k = gm) wi).set _ _ fun _ => rfl
            have hgmw : gm < W1.heap.size := by rw [hW1'.out]; simp; have := hgm'.out; omega
            have hO2 := row_same HO.out (w' := W2) fun k hk hl => hfw.block k hl fun e => by have := (HO.out.lt k hk).1; omega
            have hn4 : n ≤ 4096 := by have := HM.out; have := hm2; omega
            have A1 := Lib.hid (hO2.alloc (.cells #[.int .i64 (j : Nat)] 3))
            have A2 := Lib.hid (World.news_of_block (w := W2.alloc (.cells #[.int .i64 (j : Nat)] 3)) (cs := #[.int .i64 (j : Nat)]) (t := 3) (fr := (0, 0)) (heap_alloc_new W2 _))
            have A3 := Lib.hid (show ∀ u ∈ (#[.int .i64 (j : Nat)] : Array Value).toList, u.oneCell' = true from fun u hu => by simp at hu; subst hu; rfl)
            have A4 := Lib.hid (show n + 1 ≤ maxLen by unfold maxLen; omega)
            have A5 := Lib.hid (show (n + 1) * 8 ≤ 140737488355328 by omega)
            have A7 := Lib.hid (show W1.heap.size ≤ (W2.alloc (.cells #[.int .i64 (j : Nat)] 3)).heap.size by have := (hO2.lt g2 rfl); simp; omega)
            have hbw' := Lib.hid hbw
            have hfw' := Lib.hid hfw
            have hgmw' := Lib.hid hgmw
            have hO2' := Lib.hid hO2
            have hW2' := Lib.hid hW2
            clear hb2 hB2 hbw hfw hO2 hW2 hgmw hn4
            go_upto_region 13 with fail
            rw [← hW2'.out]
            go_wp2_with (at_builtin; refine wpList_append_lies _ rfl _ _ 30 rfl W1.heap.size 3 inf _ 1 8 Tryz.underlying30 hinf hz0 hz1 hz2 rfl (by decide) (.slice (some ⟨g2, 0, none⟩) n cap) n _ rfl A1.out ⟨W2.heap.size, 0, none⟩ 1 1 (#[.int .i64 (j : Nat)] : Array Value).toList rfl rfl A2.out A3.out (by decide) A4.out A5.out A7.out _ rfl ?_; intro fg fc w4 ho4 hg4 hat4 hl4; have ho4' := Lib.hid ho4; have hg4' := Lib.hid hg4; have hat4' := Lib.hid hat4; clear ho4 hg4 hat4)
            have hf4 : Far (fun k => k = g2) W2 w4 := ((Far.refl (fun k => k = g2) W2).alloc _).grown hg4'.out fun k _ e => by cases e; rfl
            have ho5 := ho4'.out
            rw [show ncells l ++ (#[.int .i64 (j : Nat)] : Array Value).toList = ncells (l ++ [j]) by rw [ncells_snoc]] at ho5
            have hg2w := (HO.out.lt g2 rfl).1
            have hb4 : BRow w4 gm s (addG (fun _ => false) G j) := Bk.far' hbw'.out hf4 fun e => by have := hgmw'.out; omega
            have hF4 : Far (fun _ => False) w w4 := (HF.out.trans hfw'.out (F := fun _ => False) fun k hk e => by have := hgm'.out; omega).trans hf4 fun k hk e => by have := hf1'.out.size; omega
            exact ⟨⟨fg, fc, n + 1, p + 1, l ++ [j], addG (fun _ => false) G j, rfl, by go_num, by omega, ho5, by have := HM.out; have := hum.out; omega, HT.out, hb4, hF4⟩, by simp only [intOf]; omega⟩
        · have hpe : p = N := by omega
          subst hpe
          have hpi : ¬ (p : Int) < (p : Int) := by omega
          clear hRw
          go_wp2_with fail
          go_roundg (2 * unm s G + n)
          case measure => exact HM.out
          case rel => exact ⟨g2, cap, n, l, G, rfl, HO.out, rfl, by have := HM.out; omega, HS.out.stop (by rw [hN'.out]; exact Nat.le_refl _), HB.out, HF.out⟩
end
end Go.Proofs.YtjolkhiggcmoiaaGreatDoor
/-! ## QRClose: The document's: the closure of a matrix; what is reached from a row. -/
namespace Go.Proofs.YtjolkhiggcmoiaaGreatDoor
open Go.RowKit Go.Shelf
set_option linter.unusedVariables false
set_option linter.unusedSimpArgs false
/-- Where Times stands: what is told so far. -/
structure TO (W1 : World) (h5 s : Nat) (O : List (Nat × Nat)) (lv : Value) (X : World) : Prop where
  b5 : Bk X h5 27 #[.int .i64 (s : Nat), lv]
  own : X.ownsRow W1.heap.size 71 2 lv O.length (ccells O)
  far : Far (fun k => k = h5) W1 X
theorem TO.still {W1 X Y : World} {h5 s : Nat} {O : List (Nat × Nat)} {lv : Value} (h : TO W1 h5 s O lv X) (hf : Far (fun _ => False) X Y) : TO W1 h5 s O lv Y :=
  ⟨h.b5.far' hf id, row_same h.own fun k _ hl => hf.block k hl id, h.far.trans hf fun _ _ h => h.elim⟩
theorem TO.bool {W1 X : World} {h5 s gm S : Nat} {O : List (Nat × Nat)} {lv : Value} {f : Nat → Bool} (h : TO W1 h5 s O lv X) (hb : BRow X gm S f) (hg : W1.heap.size ≤ gm) (i : Nat) (v : Value) : TO W1 h5 s O lv (X.setCell ⟨gm, i, none⟩ v) := by
  have hn : h5 ≠ gm := fun e => by
    have h1 := h.b5
    rw [e] at h1
    have := bk_type h1 hb
    revert this; decide
  refine ⟨h.b5.far (p := ⟨gm, i, none⟩) hn v, row_same h.own fun k hk hl => RowKit.Below.heap_setCell _ _ _ _ fun e => ?_, h.far.set _ _ fun hl => absurd hg (by show ¬ _ ≤ gm; exact Nat.not_le.2 hl)⟩
  obtain ⟨_, _, cs, hb2⟩ := own_type h.own hk
  have e2 : k = gm := e
  rw [e2] at hb2
  have := bk_type hb2 hb
  revert this; decide
theorem RN.kept {b g s : Nat} {V : Nat → Value} {L : Nat → List Nat} {w w' : World} {F : Nat → Prop} (h : RN b g s V L w) (hf : Far F w w') (hg : ¬ F g) (hb : ∀ k, b ≤ k → ¬ F k) : RN b g s V L w' := ⟨h.box.far' hf hg, fun r hr => row_same (h.own r hr) fun k hk hl => hf.block k hl (hb k ((h.own r hr).lt k hk).1), h.dist⟩
section
set_option maxHeartbeats 16000000
set_option maxRecDepth 100000
theorem rclose_any {w : World} {va : Value} {s : Nat} {M C : Nat → Nat → Bool} (ha : Dm w va s M) (hC : IsClo M C) : Calls Tryz.prog 37 #[va] w fun e w' => ∃ v, e = .returned v ∧ Dm w' v s C ∧ Dn v w.heap.size ∧ Far (fun _ => False) w w' := by
  have NX0 := fun (W : World) (hf : Far (fun _ => False) w W) => rnext_any (ha.move hf)
  obtain ⟨aoa, ca, rfl, hPa, hca, hs, hwa⟩ := ha
  obtain ⟨na, hna⟩ : ∃ n, (cellsL M s).length = n := ⟨_, rfl⟩
  rw [hna] at hca NX0 ⊢
  obtain ⟨h2, hh2⟩ : ∃ h, h = w.heap.size := ⟨_, rfl⟩
  obtain ⟨h4, hh4⟩ : ∃ h, h = h2 + 1 := ⟨_, rfl⟩
  obtain ⟨h5, hh5⟩ : ∃ h, h = h4 + 1 := ⟨_, rfl⟩
  obtain ⟨Wz, hWz⟩ : ∃ V, V = (w.alloc (.cells #[.int .i64 (s : Nat), .slice aoa na ca] 27)).alloc (.cells #[.int .i64 0, .slice none 0 0] 27) := ⟨_, rfl⟩
  obtain ⟨W0, hW0⟩ : ∃ V, V = Wz.alloc (.cells #[.int .i64 (s : Nat), .slice none 0 0] 27) := ⟨_, rfl⟩
  have hzz : Wz.heap.size = h5 := by rw [hWz]; simp [hh5, hh4, hh2]
  have hFz : Far (fun _ => False) w Wz := hWz ▸ ((Far.refl _ w).alloc _).alloc _
  have hF0 : Far (fun _ => False) w W0 := hW0 ▸ hFz.alloc _
  have hz2 : Bk Wz h2 27 #[.int .i64 (s : Nat), .slice aoa na ca] := hWz ▸ (Bk.new hh2).alloc _
  have hz4 : Bk Wz h4 27 #[.int .i64 0, .slice none 0 0] := hWz ▸ Bk.new (by simp [hh4, hh2])
  have hB2 : Bk W0 h2 27 #[.int .i64 (s : Nat), .slice aoa na ca] := hW0 ▸ hz2.alloc _
  have hB4 : Bk W0 h4 27 #[.int .i64 0, .slice none 0 0] := hW0 ▸ hz4.alloc _
  have hB5 : Bk W0 h5 27 #[.int .i64 (s : Nat), .slice none 0 0] := hW0 ▸ Bk.new hzz.symm
  have zz0 : Wz.cell? ⟨h2, 0, none⟩ = some (.int .i64 (s : Nat)) := hz2.cell 0
  have r0 : W0.cell? ⟨h2, 0, none⟩ = some (.int .i64 (s : Nat)) := hB2.cell 0
  have r1 : W0.cell? ⟨h2, 1, none⟩ = some (.slice aoa na ca) := hB2.cell 1
  have NX := NX0 W0 hF0
  have hC' := Lib.hid hC
  have hna' := Lib.hid hna
  have hwa' := Lib.hid hwa
  have hnum := Lib.hid (show h2 = w.heap.size ∧ h4 = h2 + 1 ∧ h5 = h4 + 1 ∧ h5 < W0.heap.size from ⟨hh2, hh4, hh5, hB5.lt⟩)
  have hWz' := Lib.hid hWz
  have hW0' := Lib.hid hW0
  have hzz' := Lib.hid hzz
  have hF0' := Lib.hid hF0
  have hB2' := Lib.hid hB2
  have hB4' := Lib.hid hB4
  have hB5' := Lib.hid hB5
  have e4 := Lib.hid hh4
  have e2 := Lib.hid hh2
  clear hPa hna hwa hh2 hh4 hh5 hWz hW0 hzz hFz hF0 hz2 hz4 hB2 hB4 hB5 NX0 hC hca
  go_enter Tryz.func37, Tryz.ntmps37
  go_upto_region 1 with fail
  rw [← e2.out, ← e4.out, ← hWz'.out]
  go_upto_region 2 with fail
  rw [hzz'.out, ← hW0'.out]
  clear zz0
  go_wp2_with fail
  refine NX.mono ?_
  rintro e W1 ⟨b, g, rfl, ⟨V, hR⟩, hbl, hgl, hfc⟩
  have hfc' := Lib.hid hfc
  have HX := Lib.hid (show ∀ X, Far (fun k => k = h5) W1 X → X.cell? ⟨h2, 0, none⟩ = some (.int .i64 (s : Nat)) ∧ RN b g s V (colsM M s) X from fun X hX => by
    have hn := hnum.out
    exact ⟨((hB2'.out.far' hfc id).far' hX (by omega)).cell 0, hR.kept hX (by omega) fun k hk => by omega⟩)
  have hO0 : TO W1 h5 s (cellsK C s 0) (.slice none 0 0) W1 := ⟨hB5'.out.far' hfc id, World.ownsRow_nil _ _ _ _, Far.refl _ _⟩
  have hO0' := Lib.hid hO0
  clear NX hR hbl hgl hfc r0 r1 hO0
  go_wp2_with fail
  go_loopw [5] (fun iv wr => ∃ (i : Nat) (lv : Value), i ≤ s ∧ iv = .int .i64 (i : Nat) ∧ TO W1 h5 s (cellsK C s i) lv wr) (fun iv _ => s - (intOf iv).toNat)
  case atStart => exact ⟨0, _, Nat.zero_le _, rfl, hO0'.out⟩
  case round =>
    clear hO0'
    obtain ⟨i, lv, hi, rfl, hO⟩ := hrel
    obtain ⟨wo, hwo⟩ : ∃ wo, wo = wr := ⟨_, rfl⟩
    rw [← hwo] at hO ⊢
    clear hwo
    obtain ⟨b20, hRo⟩ := HX.out wo hO.far
    by_cases hlt : i < s
    · have hii : (i : Int) < (s : Int) := by omega
      have hib : (i : Int) + 1 ≤ 9223372036854775807 := by omega
      have hown := hRo.own i hlt
      obtain ⟨N, hN⟩ : ∃ N, (colsM M s i).length = N := ⟨_, rfl⟩
      rw [hN] at hown
      obtain ⟨vo, vc, hV⟩ := q_form hown
      have d0 : wo.cell? ⟨g, i, none⟩ = some (.slice vo N vc) := by rw [hRo.at hlt, hV]
      have hgl := hRo.box.lt
      have RE := rreached_any hRo hs hwa'.out hC'.out hlt
      have hO' := Lib.hid hO
      clear hown hV hO hRo
      by_cases h0 : N = 0
      · have hno : colsM M s i = [] := List.length_eq_zero_iff.1 (by omega)
        have hnc : colsM C s i = [] := by
          rw [List.eq_nil_iff_forall_not_mem]
          intro c hc
          have hm := (mem_colsM.1 hc).2
          rcases ((hC'.out i c).1 hm).first with h | ⟨k, h, _⟩
          · have := mem_colsM.2 ⟨(hwa'.out _ _ h).2, h⟩
            rw [hno] at this
            cases this
          · have := mem_colsM.2 ⟨(hwa'.out _ _ h).2, h⟩
            rw [hno] at this
            cases this
        have heB : ((N : Int) == 0) = true := by simp; omega
        have hO2 := Lib.hid (show TO W1 h5 s (cellsK C s (i + 1)) lv wo by rw [cellsK_succ, hnc, List.map_nil, List.append_nil]; exact hO'.out)
        clear hno hnc h0 RE hO' hN
        go_wp2_with fail
        exact ⟨⟨i + 1, lv, by omega, by go_num, hO2.out⟩, by simp only [intOf]; omega⟩
      · have heB : ((N : Int) == 0) = false := by simp; omega
        clear h0 hN
        go_wp2_with fail
        refine RE.mono ?_
        rintro e wq ⟨gm, rfl, hBj, hgm, hfq⟩
        have hOj : TO W1 h5 s (cellsR C s i 0) lv wq := by rw [cellsR_zero]; exact hO'.out.still hfq
        have hgW := Lib.hid (Nat.le_trans hO'.out.far.size hgm)
        obtain ⟨b20, _⟩ := HX.out wq hOj.far
        have hBj := Lib.hid hBj
        have hOj := Lib.hid hOj
        clear RE hgm hfq hO' d0
        go_wp2_with fail
        clear b20
        go_loopw [7] (fun jv wr => ∃ (j : Nat) (lv : Value), j ≤ s ∧ jv = .int .i64 (j : Nat) ∧ BRow wr gm s (C i) ∧ TO W1 h5 s (cellsR (C) s i j) lv wr) (fun jv _ => s - (intOf jv).toNat)
        case atStart => exact ⟨0, lv, Nat.zero_le _, rfl, hBj.out, hOj.out⟩
        case round =>
          clear hBj hOj
          obtain ⟨j, lj, hj, rfl, hBj, hOj⟩ := hrel
          obtain ⟨wj, hwj⟩ : ∃ wj, wj = wr := ⟨_, rfl⟩
          rw [← hwj] at hBj hOj ⊢
          clear hwj
          obtain ⟨b20, _⟩ := HX.out wj hOj.far
          by_cases hjs : j < s
          · have hjsi : (j : Int) < (s : Int) := by omega
            have hjb : (j : Int) + 1 ≤ 9223372036854775807 := by omega
            have t0 : wj.cell? ⟨gm, j, none⟩ = some (.bool (C i j)) := hBj.get j hjs
            have hst := cellsR_step (C) s i j
            cases hb : C i j with
            | false =>
              rw [hb] at t0
              rw [if_neg (by rw [hb]; exact Bool.false_ne_true)] at hst
              have hOk := Lib.hid (show TO W1 h5 s (cellsR (C) s i (j + 1)) lj wj by rw [hst]; exact hOj)
              have hBk := Lib.hid hBj
              clear hb hst hOj hBj
              go_wp2_with fail
              go_roundw
              case rel => exact ⟨j + 1, lj, by omega, by go_num, hBk.out, hOk.out⟩
              case measure => simp only [intOf]; omega
            | true =>
              rw [hb] at t0
              rw [if_pos hb] at hst
              obtain ⟨O, hOO⟩ : ∃ O, cellsR (C) s i j = O := ⟨_, rfl⟩
              have hOl := cellsR_len (M := C) (i := i) (j := j) hs hlt hj
              rw [hOO] at hst hOj hOl
              obtain ⟨n, hn⟩ : ∃ n, n = O.length := ⟨_, rfl⟩
              have hown := hOj.own
              rw [← hn] at hown hOl
              obtain ⟨oo, oc, rfl⟩ := q_form hown
              have c50 : wj.cell? ⟨h5, 0, none⟩ = some (.int .i64 (s : Nat)) := hOj.b5.cell 0
              have c51 : wj.cell? ⟨h5, 1, none⟩ = some (.slice oo n oc) := hOj.b5.cell 1
              obtain ⟨ci, hci, hz0, hz1, hz2⟩ := info_parts cellInfo
              have C1 := Lib.hid (World.ownsRow.alloc hown (.cells #[.int .i64 (i : Nat), .int .i64 (j : Nat)] 71))
              have C7 := Lib.hid (World.news_of_block (w := wj.alloc (.cells #[.int .i64 (i : Nat), .int .i64 (j : Nat)] 71)) (cs := #[.int .i64 (i : Nat), .int .i64 (j : Nat)]) (t := 71) (fr := (0, 0)) (heap_alloc_new wj _))
              have C3 := Lib.hid (show ∀ u ∈ [(.int .i64 (i : Nat) : Value), .int .i64 (j : Nat)], u.oneCell' = true by simp [Value.oneCell'])
              have C4 : n + 1 ≤ maxLen := by unfold maxLen; omega
              have C5 : (n + 1) * 16 ≤ 140737488355328 := by omega
              have C6 : W1.heap.size ≤ (wj.alloc (.cells #[.int .i64 (i : Nat), .int .i64 (j : Nat)] 71)).heap.size := by have := hOj.far.size; simp; omega
              have hfa := (Far.refl (fun _ => False) wj).alloc (.cells #[.int .i64 (i : Nat), .int .i64 (j : Nat)] 71)
              have hAl := hOj.still hfa
              have n5r : ∀ r, (Value.slice oo n oc).ownBlock = some r → r ≠ h5 ∧ r ≠ gm ∧ W1.heap.size ≤ r := fun r hr => by
                obtain ⟨q1, _, cs, hb2⟩ := own_type hown hr
                refine ⟨fun e => ?_, fun e => ?_, q1⟩
                · rw [e] at hb2; have := bk_type hb2 hOj.b5; revert this; decide
                · rw [e] at hb2; have := bk_type hb2 hBj; revert this; decide
              have HN := Lib.hid (show ∀ (v2 : Value) (w6 : World), w6.ownsRow W1.heap.size 71 2 v2 (n + 1) (ccells O ++ [.int .i64 (i : Nat), .int .i64 (j : Nat)]) → (wj.alloc (.cells #[.int .i64 (i : Nat), .int .i64 (j : Nat)] 71)).grownBy w6 (Value.slice oo n oc).ownBlock →
                  Bk w6 h5 27 #[.int .i64 (s : Nat), .slice oo n oc] ∧ BRow (w6.setCell ⟨h5, 1, none⟩ v2) gm s (C i) ∧ TO W1 h5 s (O ++ [(i, j)]) v2 (w6.setCell ⟨h5, 1, none⟩ v2) from fun v2 w6 ho hg => by
                have hf6 := grown_F hg
                have hb5 : Bk w6 h5 27 #[.int .i64 (s : Nat), .slice oo n oc] := Bk.far' (hAl.b5) hf6 fun e => (n5r _ e).1 rfl
                have hbm : BRow w6 gm s (C i) := Bk.far' (Bk.far' hBj hfa id) hf6 fun e => (n5r _ e).2.1 rfl
                have n5m : gm ≠ h5 := fun e => by
                  have h1 := hb5
                  rw [← e] at h1
                  have := bk_type h1 hbm
                  revert this; decide
                refine ⟨hb5, Bk.far hbm (p := ⟨h5, 1, none⟩) n5m v2, ?_, ?_, ?_⟩
                · exact hb5.set 1 v2
                · have ho2 : w6.ownsRow W1.heap.size 71 2 v2 (O ++ [(i, j)]).length (ccells (O ++ [(i, j)])) := by
                    rw [ccells_app, List.length_append, List.length_singleton, ← hn]
                    exact ho
                  refine row_same ho2 fun k hk hl => RowKit.Below.heap_setCell _ _ _ _ fun e => ?_
                  obtain ⟨_, _, cs, hb2⟩ := own_type ho2 hk
                  have e2 : k = h5 := e
                  rw [e2] at hb2
                  have := bk_type hb2 hb5
                  revert this; decide
                · exact ((hAl.far).trans hf6 fun k hk e => by have := (n5r k e).2.2; omega).set ⟨h5, 1, none⟩ v2 fun _ => rfl)
              have hst' := Lib.hid hst
              clear hb hst hOj hBj hOO hn hown hAl n5r hfa
              go_wp2_with (at_builtin; refine wpList_append_own _ rfl _ _ 22 rfl W1.heap.size 71 ci _ 2 16 Tryz.underlying22 hci hz0 hz1 hz2 rfl (by decide) (.slice oo n oc) n _ rfl C1.out ⟨wj.heap.size, 0, none⟩ 1 1 [.int .i64 (i : Nat), .int .i64 (j : Nat)] rfl rfl C7.out C3.out C4 C5 C6 ?_; intro v2 w6 ho6 hg6 hn6; obtain ⟨vo, vc, rfl⟩ := q_form ho6; obtain ⟨k5, kb, kO⟩ := HN.out _ w6 ho6 hg6; have s51 : w6.cell? ⟨h5, 1, none⟩ = some (.slice oo n oc) := k5.cell 1; have sf5 := k5.free 1; have kb' := Lib.hid kb; have kO' := Lib.hid kO; clear ho6 hg6 hn6 k5 kb kO c50 c51 HN)
              go_roundw
              case rel => exact ⟨j + 1, _, by omega, by go_num, kb'.out, by rw [hst'.out]; exact kO'.out⟩
              case measure => simp only [intOf]; omega
          · have e : j = s := by omega
            have hOk := Lib.hid (show TO W1 h5 s (cellsK (C) s (i + 1)) lj wj by have h := cellsR_all (C) s i; rw [← h]; rw [e] at hOj; exact hOj)
            clear e hOj hBj
            go_wp2_with fail
            go_roundw
            case rel => exact ⟨i + 1, lj, by omega, by go_num, hOk.out⟩
            case measure => simp only [intOf]; omega
    · have e : i = s := by omega
      subst e
      clear hRo
      have hn := hnum.out
      have hB4o : Bk wo h4 27 #[.int .i64 0, .slice none 0 0] := (hB4'.out.far' hfc'.out id).far' hO.far (by omega)
      obtain ⟨oo, oc, rfl⟩ := q_form hO.own
      have hlen : (cellsK (C) i i).length = (cellsL (C) i).length := rfl
      obtain ⟨n, hn2⟩ : ∃ n, n = (cellsK (C) i i).length := ⟨_, rfl⟩
      have hown := hO.own
      have hb5 := hO.b5
      rw [← hn2] at hown hb5
      have q0 : wo.cell? ⟨h5, 0, none⟩ = some (.int .i64 (i : Nat)) := hb5.cell 0
      have q1 : wo.cell? ⟨h5, 1, none⟩ = some (.slice oo n oc) := hb5.cell 1
      have d0 : wo.cell? ⟨h4, 0, none⟩ = some (.int .i64 0) := hB4o.cell 0
      have d1 : wo.cell? ⟨h4, 1, none⟩ = some (.slice none 0 0) := hB4o.cell 1
      have f0 := hB4o.free 0
      have f1 := hB4o.free 1
      have n45 : h4 ≠ h5 := by omega
      have n54 : h5 ≠ h4 := by omega
      have hB4o' := Lib.hid hB4o
      have hfO := Lib.hid hO.far
      have hown' := Lib.hid hown
      have hn2' := Lib.hid hn2
      have hW1z := Lib.hid (show w.heap.size ≤ W1.heap.size from (hF0'.out.then hfc'.out).size)
      clear hO hB4o hown hb5 hn2 hlen hn
      go_wp2_with fail
      (try simp only [Exit.inBlock, Exit.then])
      obtain ⟨w7, hw7⟩ : ∃ V, V = (wo.setCell ⟨h4, 0, none⟩ (.int .i64 (i : Nat))).setCell ⟨h4, 1, none⟩ (.slice oo n oc) := ⟨_, rfl⟩
      have hB7 : Bk w7 h4 27 #[.int .i64 (i : Nat), .slice oo n oc] := hw7 ▸ (hB4o'.out.set 0 _).set 1 _
      have hf67 : Far (fun q => q = h4) wo w7 := hw7 ▸ ((Far.refl (fun q => q = h4) wo).set ⟨h4, 0, none⟩ _ fun _ => rfl).set ⟨h4, 1, none⟩ _ fun _ => rfl
      have hf57 : Far (fun q => q = h4 ∨ q = h5) W1 w7 := (hfO.out.mono fun _ _ e => .inr e).trans hf67 fun _ _ e => .inl e
      have hnn := hnum.out
      have hf7 : Far (fun _ => False) w w7 := (hF0'.out.then hfc'.out).trans hf57 fun q hq e => by rcases e with rfl | rfl <;> omega
      have c0 : w7.cell? ⟨h4, 0, none⟩ = some (.int .i64 (i : Nat)) := hB7.cell 0
      have c1 : w7.cell? ⟨h4, 1, none⟩ = some (.slice oo n oc) := hB7.cell 1
      have ho7 := row_same hown'.out fun q hq hl => hf67.block q hl fun e => by
        obtain ⟨_, _, cs, hb2⟩ := own_type hown'.out hq
        rw [e] at hb2
        have := bk_type hb2 hB4o'.out
        revert this; decide
      have hwm := hC'.out.within hwa'.out
      have hDn : Dn (.agg #[.int .i64 (i : Nat), .slice oo n oc]) w.heap.size := fun _ _ _ _ e a ha => by
        cases e
        subst ha
        obtain ⟨h1, _⟩ := own_type hown'.out (k := a.block) rfl
        have := hW1z.out
        omega
      have hD : Dm w7 (.agg #[.int .i64 (i : Nat), .slice oo n oc]) i (C) := Dm.own hs hwm (cellsK_rise (C) i i) (fun x => mem_cellsL hwm) ho7 hn2'.out
      rw [← hw7]
      exact bodyPost_ret (v := .agg #[.int .i64 (i : Nat), .slice oo n oc]) (by simp [results, Tryz.f37, go_sem, c0, c1]) rfl ⟨_, rfl, hD, hDn, hf7⟩
end
end Go.Proofs.YtjolkhiggcmoiaaGreatDoor
/-! ## QRFromD: From and Closure, whatever they are asked: the document's and the program's. -/
namespace Go.Proofs.YtjolkhiggcmoiaaGreatDoor
open Go.RowKit Go.Shelf
set_option linter.unusedVariables false
set_option linter.unusedSimpArgs false
theorem colsD_step (C : Nat → Nat → Bool) (f j : Nat) : colsM C (j + 1) f = colsM C j f ++ (if C f j = true then [j] else []) := by
  unfold colsM
  rw [List.range_succ, List.filter_append]
  congr 1
  cases h : C f j <;> simp [h]
/-- What From tells. -/
def fromE (C : Nat → Nat → Bool) (s : Nat) (i : Int) : List Nat := if wrE s i 0 = 0 then colsM C s i.toNat else []
theorem fromE_le (C : Nat → Nat → Bool) (s : Nat) (i : Int) : (fromE C s i).length ≤ s := by
  unfold fromE
  split
  · exact colsM_le _ _ _
  · exact Nat.zero_le _
section
set_option maxHeartbeats 8000000
set_option maxRecDepth 100000
theorem rfrom_any {w : World} {v : Value} {s : Nat} {M C : Nat → Nat → Bool} (hm : Dm w v s M) (hC : IsClo M C) (i : Int) : Calls Tryz.prog 9 #[v, .int .i64 i] w fun e w' => ∃ v', e = .returned (.tuple #[v', .int .i64 (wrE s i 0 : Nat)]) ∧ w'.ownsRow w.heap.size 3 1 v' (fromE C s i).length (ncells (fromE C s i)) ∧ Far (fun _ => False) w w' := by
  have NX0 := fun (W : World) (hf : Far (fun _ => False) w W) => rnext_any (hm.move hf)
  obtain ⟨ao, cap, rfl, hP, hcap, hs, hw⟩ := hm
  unfold fromE
  obtain ⟨n, hn⟩ : ∃ n, (cellsL M s).length = n := ⟨_, rfl⟩
  rw [hn] at hcap NX0 ⊢
  obtain ⟨h2, hh2⟩ : ∃ h, h = w.heap.size := ⟨_, rfl⟩
  obtain ⟨W0, hW0⟩ : ∃ V, V = w.alloc (.cells #[.int .i64 (s : Nat), .slice ao n cap] 27) := ⟨_, rfl⟩
  have hF0 : Far (fun _ => False) w W0 := hW0 ▸ (Far.refl _ w).alloc _
  have hB2 : Bk W0 h2 27 #[.int .i64 (s : Nat), .slice ao n cap] := hW0 ▸ Bk.new hh2
  have HB := Lib.hid (show ∀ V, Far (fun _ => False) W0 V → (V.cell? ⟨h2, 0, none⟩ = some (.int .i64 (s : Nat)) ∧ V.cell? ⟨h2, 1, none⟩ = some (.slice ao n cap)) from fun V hf => ⟨(hB2.far' hf id).cell 0, (hB2.far' hf id).cell 1⟩)
  have WR := rwrong02_any W0 s ao n cap i 0
  obtain ⟨z20, z21⟩ := HB.out W0 (Far.refl _ _)
  have NX := Lib.hid NX0
  have hC' := Lib.hid hC
  have hw' := Lib.hid hw
  have hW0' := Lib.hid hW0
  have hF0' := Lib.hid hF0
  have hh2' := Lib.hid hh2
  clear hP hn hw hC hW0 hF0 hB2 hh2 NX0 hcap
  by_cases hE : wrE s i 0 = 0
  · obtain ⟨h0, ⟨i0, i1⟩, _⟩ := wrE_ok hE
    rw [hE] at WR ⊢
    rw [if_pos rfl]
    obtain ⟨i, rfl⟩ : ∃ k : Nat, i = (k : Int) := ⟨i.toNat, by omega⟩
    rw [Int.toNat_natCast]
    have his : i < s := by omega
    clear hE h0 i0
    go_enter Tryz.func9, Tryz.ntmps9
    go_upto_region 1 with fail
    rw [← hh2'.out, ← hW0'.out]
    go_wp2_with fail
    refine WR.mono ?_
    rintro e W1 ⟨rfl, hf1⟩
    obtain ⟨y20, y21⟩ := HB.out W1 hf1
    have N1 := NX.out W1 (hF0'.out.then hf1)
    have hf1' := Lib.hid hf1
    clear WR hf1 z20 z21
    go_wp2_with fail
    refine N1.mono ?_
    rintro e W2 ⟨b, g, rfl, ⟨V, hR⟩, _, _, hf2⟩
    have RE := rreached_any hR hs hw'.out hC'.out his
    have hf2' := Lib.hid (hf1'.out.then hf2)
    clear N1 hR hf2 hf1' y20 y21
    go_wp2_with fail
    refine RE.mono ?_
    rintro e W3 ⟨gm, rfl, hB, hgm, hf3⟩
    have hB' := Lib.hid hB
    have hf3' := Lib.hid (hf2'.out.then hf3)
    clear RE hB hgm hf3 hf2'
    go_wp2_with fail
    go_loopw [8, 9] (fun lv jv wr => ∃ j : Nat, j ≤ s ∧ jv = .int .i64 (j : Nat) ∧ wr.ownsRow W3.heap.size 3 1 lv (colsM C j i).length (ncells (colsM C j i)) ∧ Far (fun _ => False) W3 wr) (fun _ jv _ => s - (intOf jv).toNat)
    case atStart => exact ⟨0, Nat.zero_le _, rfl, by simp only [colsM, List.range_zero, List.filter_nil]; exact World.ownsRow_nil _ _ _ _, Far.refl _ _⟩
    case round =>
      obtain ⟨j, hj, rfl, hO, hf⟩ := hrel
      obtain ⟨wd, hwd⟩ : ∃ wd, wd = wr := ⟨_, rfl⟩
      rw [← hwd] at hO hf ⊢
      clear hwd
      obtain ⟨b20, b21⟩ := HB.out wd (hf3'.out.then hf)
      have hst := colsD_step C i j
      obtain ⟨O, hOO⟩ : ∃ O, colsM C j i = O := ⟨_, rfl⟩
      have hmm : O.length ≤ 1024 := by rw [← hOO]; exact Nat.le_trans (colsM_le _ _ _) (by omega)
      rw [hOO] at hst hO
      by_cases hlt : j < s
      · have hji : (j : Int) < (s : Int) := by omega
        have hjb : (j : Int) + 1 ≤ 9223372036854775807 := by omega
        have hcb := BRow.get (show BRow wd gm s (fun c => C i c) from Bk.far' hB'.out hf id) j hlt
        obtain ⟨m, hm⟩ : ∃ m, O.length = m := ⟨_, rfl⟩
        rw [hm] at hO hmm
        obtain ⟨oo, oc, rfl⟩ := q_form hO
        have hO' := Lib.hid hO
        have hfw := Lib.hid hf
        have hm' := Lib.hid hm
        clear hO hf hOO hm
        cases hb : C i j with
        | false =>
          rw [hb] at hcb
          rw [hb, if_neg (by simp), List.append_nil] at hst
          have hst' := Lib.hid hst
          clear hb hst
          go_wp2_with fail
          exact ⟨⟨j + 1, by omega, by go_num, by rw [hst'.out, hm'.out]; exact hO'.out, hfw.out⟩, by simp only [intOf]; omega⟩
        | true =>
          rw [hb] at hcb
          rw [hb, if_pos rfl] at hst
          obtain ⟨ci, hci, hz0, hz1, hz2⟩ := info_parts int_infoF
          have A1 := Lib.hid (hO'.out.alloc (.cells #[.int .i64 (j : Nat)] 3))
          have A2 := Lib.hid (World.news_of_block (w := wd.alloc (.cells #[.int .i64 (j : Nat)] 3)) (cs := #[.int .i64 (j : Nat)]) (t := 3) (fr := (0, 0)) (heap_alloc_new wd _))
          have A3 := Lib.hid (show ∀ u ∈ (#[.int .i64 (j : Nat)] : Array Value).toList, u.oneCell' = true from fun u hu => by simp at hu; subst hu; rfl)
          have A4 := Lib.hid (show m + 1 ≤ maxLen by unfold maxLen; omega)
          have A5 := Lib.hid (show (m + 1) * 8 ≤ 140737488355328 by omega)
          have A7 := Lib.hid (show W3.heap.size ≤ (wd.alloc (.cells #[.int .i64 (j : Nat)] 3)).heap.size by have := hfw.out.size; simp; omega)
          have hst' := Lib.hid hst
          clear hb hst
          go_wp2_with (at_builtin; refine wpList_append_lies _ rfl _ _ 30 rfl W3.heap.size 3 ci _ 1 8 Tryz.underlying30 hci hz0 hz1 hz2 rfl (by decide) (.slice oo m oc) m _ rfl A1.out ⟨wd.heap.size, 0, none⟩ 1 1 (#[.int .i64 (j : Nat)] : Array Value).toList rfl rfl A2.out A3.out (by decide) A4.out A5.out A7.out _ rfl ?_; intro fg fc w4 ho4 hg4 hat4 hl4; have ho4' := Lib.hid ho4; have hg4' := Lib.hid hg4; clear ho4 hg4 hat4)
          have hF4 : Far (fun _ => False) W3 w4 := hfw.out.trans (((Far.refl (fun k => (Value.slice oo m oc).ownBlock = some k) wd).alloc _).grown hg4'.out fun k _ e => e) fun k hk e => by have := (hO'.out.lt k e).1; omega
          exact ⟨⟨j + 1, by omega, by go_num, by rw [hst'.out, List.length_append, List.length_singleton, hm'.out, ncells_snoc]; exact ho4'.out, hF4⟩, by simp only [intOf]; omega⟩
      · obtain rfl : s = j := by omega
        have hji : ¬ (s : Int) < (s : Int) := by omega
        have hO' := Lib.hid hO
        have hfw := Lib.hid hf
        have hOO' := Lib.hid hOO
        clear hO hf hOO hst
        go_wp2_with fail
        go_ret2
        refine ⟨_, rfl, ?_, hF0'.out.then (hf3'.out.then hfw.out)⟩
        rw [hOO'.out]
        exact own_lower hO'.out (hF0'.out.then hf3'.out).size
  · rw [if_neg hE]
    obtain ⟨E, hEE⟩ : ∃ E, wrE s i 0 = E := ⟨_, rfl⟩
    rw [hEE] at WR hE ⊢
    have ne1 : ((E : Int) != 0) = true := by simp; omega
    clear hEE
    go_enter Tryz.func9, Tryz.ntmps9
    go_upto_region 1 with fail
    rw [← hh2'.out, ← hW0'.out]
    go_wp2_with fail
    refine WR.mono ?_
    rintro e W1 ⟨rfl, hf1⟩
    have hf1' := Lib.hid (hF0'.out.then hf1)
    clear WR hf1 z20 z21
    go_wp2_with fail
    go_ret2
    exact ⟨_, rfl, World.ownsRow_nil _ _ _ _, hf1'.out⟩
theorem rclosureD_any {w : World} {v : Value} {s : Nat} {M C : Nat → Nat → Bool} (hm : Dm w v s M) (hC : IsClo M C) : Calls Tryz.prog 11 #[v] w fun e w' => ∃ v', e = .returned (.tuple #[v', .int .i64 ((if s = 0 then 1 else 0 : Nat) : Int)]) ∧ Dm w' v' s C ∧ Far (fun _ => False) w w' := by
  have CL0 := fun (W : World) (hf : Far (fun _ => False) w W) => rclose_any (hm.move hf) hC
  obtain ⟨ao, cap, rfl, hP, hcap, hs, hw⟩ := hm
  obtain ⟨n, hn⟩ : ∃ n, (cellsL M s).length = n := ⟨_, rfl⟩
  rw [hn] at hcap CL0 ⊢
  obtain ⟨h1, hh1⟩ : ∃ h, h = w.heap.size := ⟨_, rfl⟩
  obtain ⟨h2, hh2⟩ : ∃ h, h = h1 + 1 := ⟨_, rfl⟩
  obtain ⟨W0, hW0⟩ : ∃ V, V = (w.alloc (.cells #[.int .i64 (s : Nat), .slice ao n cap] 27)).alloc (.cells #[.int .i64 0, .slice none 0 0] 27) := ⟨_, rfl⟩
  have hF0 : Far (fun _ => False) w W0 := hW0 ▸ ((Far.refl _ w).alloc _).alloc _
  have hB1 : Bk W0 h1 27 #[.int .i64 (s : Nat), .slice ao n cap] := hW0 ▸ (Bk.new hh1).alloc _
  have hB2 : Bk W0 h2 27 #[.int .i64 0, .slice none 0 0] := hW0 ▸ Bk.new (by rw [hh2, hh1]; simp)
  have z10 : W0.cell? ⟨h1, 0, none⟩ = some (.int .i64 (s : Nat)) := hB1.cell 0
  have z11 : W0.cell? ⟨h1, 1, none⟩ = some (.slice ao n cap) := hB1.cell 1
  have z20 : W0.cell? ⟨h2, 0, none⟩ = some (.int .i64 0) := hB2.cell 0
  have z21 : W0.cell? ⟨h2, 1, none⟩ = some (.slice none 0 0) := hB2.cell 1
  have f20 := hB2.free 0
  have f21 := hB2.free 1
  have CL := CL0 W0 hF0
  have hlt : w.heap.size ≤ h2 := by omega
  have hC' := Lib.hid hC
  have hw' := Lib.hid hw
  have hW0' := Lib.hid hW0
  have hF0' := Lib.hid hF0
  have hB2' := Lib.hid hB2
  have e1 := Lib.hid hh1
  have e2 := Lib.hid hh2
  clear hP hn hw hC hW0 hF0 hB1 hB2 hh1 hh2 CL0 hcap
  by_cases h0 : s = 0
  · have ne : ((s : Int) == 0) = true := by simp; omega
    rw [if_pos h0]
    have h0' := Lib.hid h0
    clear CL h0
    go_enter Tryz.func11, Tryz.ntmps11
    go_upto_region 1 with fail
    rw [← e1.out, ← e2.out, ← hW0'.out]
    go_wp2_with fail
    (try simp only [Exit.inBlock, Exit.then])
    obtain ⟨w7, hw7⟩ : ∃ V, V = (W0.setCell ⟨h2, 0, none⟩ (.int .i64 0)).setCell ⟨h2, 1, none⟩ (.slice none 0 0) := ⟨_, rfl⟩
    have hB7 : Bk w7 h2 27 #[.int .i64 0, .slice none 0 0] := hw7 ▸ (hB2'.out.set 0 _).set 1 _
    have hf7 : Far (fun _ => False) w w7 := hF0'.out.trans (F := fun _ => False) (hw7 ▸ ((Far.refl (fun q => q = h2) W0).set ⟨h2, 0, none⟩ _ fun _ => rfl).set ⟨h2, 1, none⟩ _ fun _ => rfl : Far (fun q => q = h2) W0 w7) fun q hq e => by omega
    have c0 : w7.cell? ⟨h2, 0, none⟩ = some (.int .i64 0) := hB7.cell 0
    have c1 : w7.cell? ⟨h2, 1, none⟩ = some (.slice none 0 0) := hB7.cell 1
    have hD : Dm w7 (.agg #[.int .i64 0, .slice none 0 0]) s C := by
      rw [h0'.out]
      refine (Dm.none w7).congr fun r c => ?_
      cases e : C r c
      · rfl
      · have := (hC'.out.within hw'.out r c e).1
        have := h0'.out
        omega
    rw [← hw7]
    exact bodyPost_ret (v := .tuple #[.agg #[.int .i64 0, .slice none 0 0], .int .i64 1]) (by simp [results, Tryz.f11, go_sem, c0, c1]) rfl ⟨_, rfl, hD, hf7⟩
  · have ne : ((s : Int) == 0) = false := by simp; omega
    rw [if_neg h0]
    go_enter Tryz.func11, Tryz.ntmps11
    go_upto_region 1 with fail
    rw [← e1.out, ← e2.out, ← hW0'.out]
    go_wp2_with fail
    refine CL.mono ?_
    rintro e w3 ⟨v3, rfl, hD, _, hf3⟩
    obtain ⟨ao3, cap3, rfl, hr⟩ := id hD
    have hb3 := hB2'.out.far' hf3 id
    have z20 : w3.cell? ⟨h2, 0, none⟩ = some (.int .i64 0) := hb3.cell 0
    have z21 : w3.cell? ⟨h2, 1, none⟩ = some (.slice none 0 0) := hb3.cell 1
    have f20 := hb3.free 0
    have f21 := hb3.free 1
    have hb3' := Lib.hid hb3
    have hD' := Lib.hid hD
    have hf3' := Lib.hid hf3
    clear CL hb3 hD hr hf3 z10 z11
    go_wp2_with fail
    (try simp only [Exit.inBlock, Exit.then])
    obtain ⟨k3, hk3⟩ : ∃ k, (cellsL C s).length = k := ⟨_, rfl⟩
    rw [hk3] at hD' ⊢
    obtain ⟨w7, hw7⟩ : ∃ V, V = (w3.setCell ⟨h2, 0, none⟩ (.int .i64 (s : Nat))).setCell ⟨h2, 1, none⟩ (.slice ao3 k3 cap3) := ⟨_, rfl⟩
    have hB7 : Bk w7 h2 27 #[.int .i64 (s : Nat), .slice ao3 k3 cap3] := hw7 ▸ (hb3'.out.set 0 _).set 1 _
    have hf37 : Far (fun q => q = h2) w3 w7 := hw7 ▸ ((Far.refl (fun q => q = h2) w3).set ⟨h2, 0, none⟩ _ fun _ => rfl).set ⟨h2, 1, none⟩ _ fun _ => rfl
    have hf7 : Far (fun _ => False) w w7 := (hF0'.out.then hf3'.out).trans (F := fun _ => False) hf37 fun q hq e => by omega
    have c0 : w7.cell? ⟨h2, 0, none⟩ = some (.int .i64 (s : Nat)) := hB7.cell 0
    have c1 : w7.cell? ⟨h2, 1, none⟩ = some (.slice ao3 k3 cap3) := hB7.cell 1
    have hD : Dm w7 (.agg #[.int .i64 (s : Nat), .slice ao3 k3 cap3]) s C := hD'.out.box hb3'.out hf37
    rw [← hw7]
    exact bodyPost_ret (v := .tuple #[.agg #[.int .i64 (s : Nat), .slice ao3 k3 cap3], .int .i64 0]) (by simp [results, Tryz.f11, go_sem, c0, c1]) rfl ⟨_, rfl, hD, hf7⟩
theorem HasF.absent_any {w : World} {v : Value} {F : Nat → Prop} {s : Nat} {M : Nat → Nat → Bool} (h : HasF w v F s M) : Calls Tryz.prog 29 #[v] w fun e w' => e = .returned (.bool (decide (s = 0))) ∧ w = w' := by
  have SD := h.side_any
  have ne : (((s : Nat) : Int) == 0) = decide (s = 0) := by
    by_cases e : s = 0
    · subst e; rfl
    · rw [decide_eq_false e]; simp; omega
  clear h
  go_enter Tryz.func29, Tryz.ntmps29
  go_wp2_with fail
  refine SD.mono ?_
  rintro e w' ⟨rfl, rfl⟩
  go_wp2_with fail
  go_ret
  exact ⟨rfl, rfl⟩
theorem HasF.gfrom_any {w : World} {v : Value} {F : Nat → Prop} {s : Nat} {M C : Nat → Nat → Bool} (h : HasF w v F s M) (hT : Tab w) (hC : IsClo M C) (i : Int) : Calls Tryz.prog 8 #[v, .int .i64 i] w fun e w' => ∃ v', e = .returned (.tuple #[v', .int .i64 (wrE s i 0 : Nat)]) ∧ w'.ownsRow w.heap.size 3 1 v' (fromE C s i).length (ncells (fromE C s i)) ∧ Far (fun _ => False) w w' := by
  unfold fromE
  have N := h.absent_any
  by_cases h0 : s = 0
  · have e : wrE s i 0 = 1 := by rw [h0]; exact wrE_nil _ _
    rw [e, if_neg (by decide)]
    rw [decide_eq_true h0] at N
    obtain ⟨p, rfl⟩ := h.ptr
    clear h hT h0 e
    go_enter Tryz.func8, Tryz.ntmps8
    go_wp2_with fail
    refine N.mono ?_
    rintro e w' ⟨rfl, rfl⟩
    clear N
    go_wp2_with fail
    go_ret2
    exact ⟨_, rfl, World.ownsRow_nil _ _ _ _, Far.refl _ _⟩
  · obtain ⟨B, rfl, hX⟩ := h.mx h0
    by_cases hin : 0 ≤ i ∧ i < (s : Int)
    · rw [wrE_in h0 ⟨hin, by omega⟩, if_pos rfl]
      obtain ⟨i, rfl⟩ : ∃ k : Nat, i = (k : Int) := ⟨i.toNat, by omega⟩
      rw [Int.toNat_natCast]
      refine (from_yes hX hT hC i (by omega)).mono ?_
      rintro e w' ⟨v, rfl, ho, hf⟩
      exact ⟨v, rfl, ho, hf⟩
    · have e : wrE s i 0 = 2 := wrE_out h0 fun h => hin h.1
      rw [e, if_neg (by decide)]
      rw [decide_eq_false h0] at N
      have S2 := hX.side
      clear h hX hT e h0
      go_enter Tryz.func8, Tryz.ntmps8
      by_cases hi0 : i < 0
      · have hb : decide (i < 0) = true := decide_eq_true hi0
        go_wp2_with fail
        refine N.mono ?_
        rintro e w' ⟨rfl, rfl⟩
        clear N
        go_wp2_with fail
        go_ret2
        exact ⟨_, rfl, World.ownsRow_nil _ _ _ _, Far.refl _ _⟩
      · have hge : (s : Int) ≤ i := by omega
        go_wp2_with fail
        refine N.mono ?_
        rintro e w' ⟨rfl, rfl⟩
        clear N
        go_wp2_with fail
        refine S2.mono ?_
        rintro e w' ⟨rfl, rfl⟩
        go_wp2_with fail
        go_ret2
        exact ⟨_, rfl, World.ownsRow_nil _ _ _ _, Far.refl _ _⟩
theorem HasF.gclosure_any {w : World} {v : Value} {F : Nat → Prop} {s : Nat} {M C : Nat → Nat → Bool} (h : HasF w v F s M) (hT : Tab w) (hC : IsClo M C) : Calls Tryz.prog 10 #[v] w fun e w' => ∃ v', e = .returned (.tuple #[v', .int .i64 ((if s = 0 then 1 else 0 : Nat) : Int)]) ∧ (∃ F', HasF w' v' F' s C) ∧ Far (fun _ => False) w w' := by
  by_cases h0 : s = 0
  · have N := h.absent_any
    rw [decide_eq_true h0] at N
    rw [if_pos h0]
    have hC0 : C = zeroM := funext fun r => funext fun c => by
      cases e : C r c
      · rfl
      · rcases h with ⟨_, _, hm, _⟩ | ⟨B, _, hX⟩
        · subst hm
          rcases ((hC r c).1 e).first with e2 | ⟨k, e2, _⟩ <;> cases e2
        · have := (hC.within hX.within r c e).1
          omega
    have fin : ∀ W, HasF W (.pointer Option.none) (fun _ => False) s C := fun W => .inl ⟨rfl, h0, hC0, rfl⟩
    obtain ⟨p, rfl⟩ := h.ptr
    have fin' := Lib.hid fin
    clear h hT h0 hC hC0 fin
    go_enter Tryz.func10, Tryz.ntmps10
    go_wp2_with fail
    refine N.mono ?_
    rintro e w' ⟨rfl, rfl⟩
    clear N
    go_wp2_with fail
    go_ret2
    exact ⟨_, rfl, ⟨_, fin'.out _⟩, Far.refl _ _⟩
  · obtain ⟨B, rfl, hX⟩ := h.mx h0
    rw [if_neg h0]
    refine (rclosure_yes hX hT).mono ?_
    rintro e w' ⟨B', rfl, F', C', hc, hX', _, hf⟩
    exact ⟨_, rfl, ⟨F', .inr ⟨B', rfl, hX'.congr fun r c => hC.same hc r c⟩⟩, hf⟩
end
end Go.Proofs.YtjolkhiggcmoiaaGreatDoor
/-! ## QGridArg5: Structs of numbers and lists of cells as arguments. -/
namespace Go.Proofs.YtjolkhiggcmoiaaGreatDoor
open Go.ChangeMaps Go.ChangeShapes Go.WideShapes Go.ChangeAt Go.RowKit
set_option linter.unusedVariables false
set_option linter.unusedSimpArgs false
set_option maxRecDepth 100000
theorem cellsC : Tryz.prog.cellsOf 22 = 1 := by kernel_rfl
theorem open_cls_in {H : Type} {enc : TypeId × Value → H} {w : World} {base : Nat} {fuel : Nat} {x : DataW H × List MemPlace} {c : Value} (hf : DataW.trod enc Tryz.prog w base (fun _ => true) true fuel 22 [c] = some x) : ∃ ao n cap R C, c = .slice ao n cap ∧ n ≤ cap ∧ n ≤ 9223372036854775807 ∧ Cls w ao n R C := by
  obtain ⟨f0, f1, hs, o0, o1, t0, t1⟩ := cellFields
  rcases Go.Deep.open_slice_pairs cellType hs foldCell o0 o1 (by rw [t0]; exact intCells) (by rw [t1]; exact intCells) hf with ⟨hc, _⟩ | ⟨a, len0, cap0, m, n, V0, V1, D0, D1, P0, P1, hc, hb, hl, hm, hmm, _, hi⟩
  · simp only [List.cons.injEq, and_true] at hc
    exact ⟨none, 0, 0, fun _ => 0, fun _ => 0, hc, Nat.le_refl _, by omega, fun h => absurd h (Nat.lt_irrefl _)⟩
  · simp only [List.cons.injEq, and_true] at hc
    have hmax : cap0 ≤ 9223372036854775807 := by unfold maxLen at hm; omega
    simp only [if_true] at hmm
    by_cases h0 : len0 = 0
    · rw [h0] at hc
      exact ⟨some a, 0, cap0, fun _ => 0, fun _ => 0, hc, Nat.zero_le _, by omega, fun h => absurd h (Nat.lt_irrefl _)⟩
    · obtain ⟨b, off, spot⟩ := a
      have hsp : spot = none := by
        have := (hi 0 (by omega)).1
        cases spot with
        | none => rfl
        | some x =>
          simp only [Nat.zero_mul, Addr.add, if_true, World.cell?] at this
          split at this <;> simp at this
      subst hsp
      have hlt : b < w.heap.size := by
        have := block_lt_of_cell (hi 0 (by omega)).1
        rw [add_none] at this
        exact this
      refine ⟨_, len0, cap0, fun k => intOf (V0 k), fun k => intOf (V1 k), hc, by omega, by omega, fun _ => ⟨b, off, rfl, hlt, fun k hk => ?_⟩⟩
      obtain ⟨c0, c1, g0, g1⟩ := hi k (by omega)
      rw [t0] at g0
      rw [t1] at g1
      obtain ⟨x, ex, _⟩ := DataW.trod_int intType g0
      obtain ⟨y, ey, _⟩ := DataW.trod_int intType g1
      simp only [List.cons.injEq, and_true] at ex ey
      rw [add_none] at c0 c1
      rw [ex] at c0
      rw [ey] at c1
      show _ = some (Value.int .i64 (intOf (V0 k))) ∧ _ = some (Value.int .i64 (intOf (V1 k)))
      rw [ex, ey]
      exact ⟨c0, by rw [Nat.add_assoc]; exact c1⟩
theorem fields_bywaylaw05_Grid : ∃ f0 f1 : Field, Tryz.prog.underlying 24 = some (.struct #[f0, f1]) ∧ f0.type = 3 ∧ f1.type = 22 ∧ f0.offset = 0 ∧ f1.offset = 1 := ⟨_, _, Tryz.underlying24, rfl, rfl, rfl, rfl⟩
theorem cells_bywaylaw05_Grid : Tryz.prog.cellsOf 24 = 2 := by kernel_rfl
theorem open_bywaylaw05_Grid {H : Type} {enc : TypeId × Value → H} {w : World} {base : Nat} {r : Reach} {b0 : Nat} {v : Value} {d : DataW H} {ps : List MemPlace} (hv : Value.okWide Tryz.prog w r b0 24 v)
    (h : DataW.Trod enc Tryz.prog w base (fun _ => true) true 24 v d ps) : ∃ (x0 : Int) (ao1 : Option Addr) (n1 cap1 : Nat) (R1 C1 : Nat → Int), v = .agg #[.int .i64 x0, .slice ao1 n1 cap1] ∧ n1 ≤ cap1 ∧ n1 ≤ 9223372036854775807 ∧ Cls w ao1 n1 R1 C1 := by
  obtain ⟨f0, f1, hs, t0, t1, o0, o1⟩ := fields_bywaylaw05_Grid
  obtain ⟨cs, rfl, hsz⟩ := okWide_struct hs hv
  rw [cells_bywaylaw05_Grid] at hsz
  obtain ⟨fuel, hf⟩ := h
  match cs, hsz with
  | ⟨[c0, c1]⟩, _ =>
    obtain ⟨xs, n', hn', hD, _, hxl, hfld⟩ := DataW.trod_struct hs hf
    have g0 := hfld 0 f0 rfl
    rw [o0, t0, intCells] at g0
    have g1 := hfld 1 f1 rfl
    rw [o1, t1, cellsC] at g1
    match xs, hxl with
    | [y0, y1], _ =>
      obtain ⟨x0, e0, _, w0⟩ := DataW.trod_int intType g0
      simp [Value.cells] at e0
      subst e0
      obtain ⟨ao1, n1, cap1, R1, C1, e1, l1, m1, hc1⟩ := open_cls_in (c := c1) (by simpa [Value.cells] using g1)
      subst e1
      exact ⟨x0, ao1, n1, cap1, R1, C1, rfl, l1, m1, hc1⟩
end Go.Proofs.YtjolkhiggcmoiaaGreatDoor
/-! ## QMd05: The program's matrix and the document's, made; held against each other. -/
namespace Go.Proofs.YtjolkhiggcmoiaaGreatDoor
open Go.RowKit Go.Shelf
set_option linter.unusedVariables false
set_option linter.unusedSimpArgs false
attribute [local go_sem] Oper.semAt_some
section
set_option maxHeartbeats 8000000
set_option maxRecDepth 100000
theorem made05_sep (s : Int) (ao : Option Addr) (n cap : Nat) (R C : Nat → Int) (hn : n ≤ cap) (hn2 : n ≤ 9223372036854775807) (w : World) (hC : Cls w ao n R C) :
    Calls Tryz.prog 7 #[.agg #[.int .i64 s, .slice ao n cap]] w fun e w' => ∃ v d, e = .returned (.tuple #[v, d]) ∧ ∃ F, HasF w' v F (ofS s n R C) (ofM s n R C) ∧ Dm w' d (ofS s n R C) (ofM s n R C) ∧ (∃ b, w.heap.size ≤ b ∧ Dn d b ∧ ∀ k, F k → w.heap.size ≤ k ∧ k < b) ∧ Far (fun _ => False) w w' := by
  obtain ⟨h1, hh1⟩ : ∃ h, h = w.heap.size := ⟨_, rfl⟩
  obtain ⟨h3, hh3⟩ : ∃ h, h = h1 + 1 := ⟨_, rfl⟩
  obtain ⟨W0, hW0⟩ : ∃ V, V = (w.alloc (.cells #[.int .i64 s, .slice ao n cap] 24)).alloc (.cells #[.int .i64 0, .slice none 0 0] 27) := ⟨_, rfl⟩
  have hF0 : Far (fun _ => False) w W0 := hW0 ▸ ((Far.refl _ w).alloc _).alloc _
  have hB1 : Bk W0 h1 24 #[.int .i64 s, .slice ao n cap] := hW0 ▸ (Bk.new hh1).alloc _
  have hB3 : Bk W0 h3 27 #[.int .i64 0, .slice none 0 0] := hW0 ▸ Bk.new (by rw [hh3, hh1]; simp)
  have b0 : W0.cell? ⟨h1, 0, none⟩ = some (.int .i64 s) := hB1.cell 0
  have b1 : W0.cell? ⟨h1, 1, none⟩ = some (.slice ao n cap) := hB1.cell 1
  have OF := qof_any s ao n cap R C hn2 W0 (hC.move hF0)
  have hC' := Lib.hid hC
  have e3 := Lib.hid hh3
  have hh1' := Lib.hid hh1
  have hW0' := Lib.hid hW0
  have hF0' := Lib.hid hF0
  have hB1' := Lib.hid hB1
  have hB3' := Lib.hid hB3
  have hWz := Lib.hid hB3.lt
  clear hC hh3 hh1 hW0 hF0 hB1 hB3
  go_enter Tryz.func7, Tryz.ntmps7
  go_upto_region 1 with fail
  rw [← hh1'.out, ← e3.out, ← hW0'.out]
  go_wp2_with fail
  refine OF.mono ?_
  rintro e w1 ⟨v, rfl, F, hX, hlo, hf1⟩
  have hX' := Lib.hid hX
  have hlo' := Lib.hid hlo
  have hlt' := Lib.hid hX.lt
  have hf1z := Lib.hid hf1.size
  have hf1' := Lib.hid (hF0'.out.then hf1)
  have hB11 := hB1'.out.far' hf1 id
  have b0 : w1.cell? ⟨h1, 0, none⟩ = some (.int .i64 s) := hB11.cell 0
  have b1 : w1.cell? ⟨h1, 1, none⟩ = some (.slice ao n cap) := hB11.cell 1
  have hB31 := Lib.hid (hB3'.out.far' hf1 id)
  have RO := rof_any s ao n cap R C hn hn2 w1 (hC'.out.move hf1'.out)
  clear OF hX hlo hf1 hB11 hB1' hB3'
  go_wp2_with fail
  refine RO.mono ?_
  rintro e w2 ⟨d, rfl, hD, hDn, hf2⟩
  obtain ⟨ao2, cap2, rfl, hP, hcap2, hs2, hw2⟩ := hD
  have hPn := Lib.hid (hDn _ _ _ _ rfl)
  clear hDn
  obtain ⟨m, hm⟩ : ∃ m, (cellsL (ofM s n R C) (ofS s n R C)).length = m := ⟨_, rfl⟩
  obtain ⟨s2, hs⟩ : ∃ t, ofS s n R C = t := ⟨_, rfl⟩
  rw [hs] at hm hP hs2 hw2 hcap2 hX' ⊢
  rw [hm] at hcap2 ⊢
  obtain ⟨h6, hh6⟩ : ∃ h, h = w2.heap.size := ⟨_, rfl⟩
  obtain ⟨w3, hw3⟩ : ∃ V, V = w2.alloc (.cells #[.int .i64 (s2 : Nat), .slice ao2 m cap2] 27) := ⟨_, rfl⟩
  have hf3 : Far (fun _ => False) w2 w3 := hw3 ▸ (Far.refl _ w2).alloc _
  have hB6 : Bk w3 h6 27 #[.int .i64 (s2 : Nat), .slice ao2 m cap2] := hw3 ▸ Bk.new hh6
  have c0 : w3.cell? ⟨h6, 0, none⟩ = some (.int .i64 (s2 : Nat)) := hB6.cell 0
  have c1 : w3.cell? ⟨h6, 1, none⟩ = some (.slice ao2 m cap2) := hB6.cell 1
  have hB33 := (hB31.out.far' hf2 id).far' hf3 id
  have fr0 := hB33.free 0
  have fr1 := hB33.free 1
  have d0 : w3.cell? ⟨h3, 0, none⟩ = some (.int .i64 0) := hB33.cell 0
  have d1 : w3.cell? ⟨h3, 1, none⟩ = some (.slice none 0 0) := hB33.cell 1
  have n36 : h3 ≠ h6 := by have := hB31.out.lt; have := hf2.size; omega
  have n63 : h6 ≠ h3 := fun e => n36 e.symm
  have hf23 := Lib.hid (hf2.then hf3)
  have hX3 := Lib.hid (hX'.out.still hf23.out)
  have hP3 := Lib.hid (hP.move hf3)
  have hB33' := Lib.hid hB33
  have hm' := Lib.hid hm
  have hs' := Lib.hid hs
  have hw2' := Lib.hid hw2
  have hh6' := Lib.hid hh6
  have hw3' := Lib.hid hw3
  have hs2' := Lib.hid hs2
  have hcap' := Lib.hid hcap2
  clear RO hf2 hf3 hP hm hw2 hB6 hB33 hB31 hX' b0 b1 hs hh6 hw3 hs2 hcap2
  go_upto_region 3 with fail
  rw [← hh6'.out, ← hw3'.out]
  go_region
  go_wp2_with fail
  (try simp only [Exit.inBlock, Exit.then])
  obtain ⟨w7, hw7⟩ : ∃ V, V = ((w3.setCell ⟨h3, 0, none⟩ (.int .i64 (s2 : Nat))).setCell ⟨h3, 1, none⟩ (.slice ao2 m cap2)).drew := ⟨_, rfl⟩
  have hB7 : Bk w7 h3 27 #[.int .i64 (s2 : Nat), .slice ao2 m cap2] := hw7 ▸ ((hB33'.out.set 0 _).set 1 _ : Bk ((w3.setCell ⟨h3, 0, none⟩ (.int .i64 (s2 : Nat))).setCell ⟨h3, 1, none⟩ (.slice ao2 m cap2)) h3 _ _)
  have hh1 := hh1'.out
  have hh3 := e3.out
  have hf37 : Far (fun q => q = h3) w3 w7 := hw7 ▸ (((Far.refl (fun q => q = h3) w3).set ⟨h3, 0, none⟩ _ fun _ => rfl).set ⟨h3, 1, none⟩ _ fun _ => rfl).drew
  have hf7 : Far (fun _ => False) w w7 := (hf1'.out.then hf23.out).trans hf37 fun q hq e => by omega
  have c0 : w7.cell? ⟨h3, 0, none⟩ = some (.int .i64 (s2 : Nat)) := hB7.cell 0
  have c1 : w7.cell? ⟨h3, 1, none⟩ = some (.slice ao2 m cap2) := hB7.cell 1
  rw [← hw7]
  have hX7 := hX3.out.kept hf37 fun q hq e => by
    rcases hX3.out with ⟨_, _, _, rfl⟩ | ⟨B, _, hM⟩
    · exact hq
    · have hbl := hlo'.out _ hq
      rw [e] at hbl
      have := hWz.out
      omega
  have hD7 : Dm w7 (.agg #[.int .i64 (s2 : Nat), .slice ao2 m cap2]) s2 (ofM s n R C) := ⟨ao2, cap2, by rw [hm'.out], hP3.out.kept hf37 (fun a ha hl e => by
    have h1 := hPn.out a ha
    have h2 := hWz.out
    have h3' := hf1z.out
    rw [e] at h1
    omega), by rw [hm'.out]; exact hcap'.out, hs2'.out, hw2'.out⟩
  have hDn7 : Dn (.agg #[.int .i64 (s2 : Nat), .slice ao2 m cap2]) w1.heap.size := fun _ _ _ _ e a ha => by
    cases e
    exact hPn.out a ha
  have hsz7 : w.heap.size ≤ w1.heap.size := Nat.le_trans hF0'.out.size hf1z.out
  exact bodyPost_ret (v := .tuple #[v, .agg #[.int .i64 (s2 : Nat), .slice ao2 m cap2]]) (by simp [results, Tryz.f7, go_sem, c0, c1]) rfl ⟨_, _, rfl, F, by rw [hs'.out]; exact hX7, by rw [hs'.out]; exact hD7, ⟨w1.heap.size, hsz7, hDn7, fun k hk => ⟨Nat.le_trans hF0'.out.size (hlo'.out k hk), hlt'.out k hk⟩⟩, hf7⟩
theorem made05_any (s : Int) (ao : Option Addr) (n cap : Nat) (R C : Nat → Int) (hn : n ≤ cap) (hn2 : n ≤ 9223372036854775807) (w : World) (hC : Cls w ao n R C) :
    Calls Tryz.prog 7 #[.agg #[.int .i64 s, .slice ao n cap]] w fun e w' => ∃ v d, e = .returned (.tuple #[v, d]) ∧ ∃ F, HasF w' v F (ofS s n R C) (ofM s n R C) ∧ Dm w' d (ofS s n R C) (ofM s n R C) ∧ Dn d w.heap.size ∧ (∀ k, F k → w.heap.size ≤ k) ∧ Far (fun _ => False) w w' := by
  refine (made05_sep s ao n cap R C hn hn2 w hC).mono ?_
  rintro e w' ⟨v, d, rfl, F, hX, hD, ⟨b, hb, hDn, hF⟩, hf⟩
  exact ⟨v, d, rfl, F, hX, hD, fun s ao n cap e a ha => Nat.le_trans hb (hDn s ao n cap e a ha), fun k hk => (hF k hk).1, hf⟩
structure SI05 (W0 : World) (h3 h4 h5 : Nat) (s n : Nat) (lv : Value) (k : Nat) (V : World) : Prop where
  b3 : Bk V h3 27 #[.int .i64 (s : Nat), lv]
  b4 : Bk V h4 4 #[.bool false]
  b5 : Bk V h5 3 #[.int .i64 (k : Nat)]
  far : Far (fun k => k = h5) W0 V
theorem SI05.go {W0 A B : World} {h3 h4 h5 s n k : Nat} {lv : Value} {row : Option Nat} (h : SI05 W0 h3 h4 h5 s n lv k A) (hg : A.grownBy B row) (hr : ∀ r, row = some r → W0.heap.size ≤ r ∧ ∃ o : Obj, A.heap[r]? = some o ∧ o.isCells = false) : SI05 W0 h3 h4 h5 s n lv k B :=
  ⟨bk_other h.b3 (grown_F hg) fun k e => (hr k e).2, bk_other h.b4 (grown_F hg) fun k e => (hr k e).2, bk_other h.b5 (grown_F hg) fun k e => (hr k e).2, far_own h.far hg hr⟩
theorem same05_any {w : World} {v d : Value} {F : Nat → Prop} {s : Nat} {M : Nat → Nat → Bool} (h : HasF w v F s M) (hd : Dm w d s M) (hT : Tab w) : Calls Tryz.prog 12 #[v, d] w fun e w' => e = .returned (.bool true) ∧ Far (fun _ => False) w w' := by
  obtain ⟨hp1, hp2, hcan⟩ := h.places
  have hrise := cellsK_rise M s s
  obtain ⟨ao, cap, rfl, hP, hcap, hs2, hwin⟩ := hd
  have hcnt := Dm.len (⟨ao, cap, rfl, hP, hcap, hs2, hwin⟩ : Dm w (.agg #[.int .i64 (s : Nat), .slice ao (cellsL M s).length cap]) s M)
  obtain ⟨a, rfl⟩ := h.ptr
  have hnil : decide (a = none) = decide (s = 0) := by
    rcases h with ⟨e1, e2, _⟩ | ⟨B, e1, hX⟩
    · cases e1; rw [e2]; rfl
    · cases e1
      have := hX.sides.1
      rw [decide_eq_false (by simp), decide_eq_false (by omega)]
  obtain ⟨L, hL⟩ : ∃ L, cellsL M s = L := ⟨_, rfl⟩
  rw [hL] at hP hcap hcan hcnt ⊢
  obtain ⟨n, hn⟩ : ∃ n, L.length = n := ⟨_, rfl⟩
  rw [hn] at hcap hcnt ⊢
  obtain ⟨h3, hh3⟩ : ∃ h, h = w.heap.size := ⟨_, rfl⟩
  obtain ⟨h4, hh4⟩ : ∃ h, h = h3 + 1 := ⟨_, rfl⟩
  obtain ⟨W1, hW1⟩ : ∃ V, V = (w.alloc (.cells #[.int .i64 (s : Nat), .slice ao n cap] 27)).alloc (.cells #[.bool false] 4) := ⟨_, rfl⟩
  have hF1 : Far (fun _ => False) w W1 := hW1 ▸ ((Far.refl _ w).alloc _).alloc _
  have hB3 : Bk W1 h3 27 #[.int .i64 (s : Nat), .slice ao n cap] := hW1 ▸ (Bk.new hh3).alloc _
  have hB4 : Bk W1 h4 4 #[.bool false] := hW1 ▸ Bk.new (by rw [hh4, hh3]; simp)
  have HK := Lib.hid (show ∀ w2, Far (fun _ => False) W1 w2 → w2.cell? ⟨h3, 0, none⟩ = some (.int .i64 (s : Nat)) ∧ w2.cell? ⟨h3, 1, none⟩ = some (.slice ao n cap) from fun w2 hf => ⟨(hB3.far' hf id).cell 0, (hB3.far' hf id).cell 1⟩)
  obtain ⟨r0, r1⟩ := HK.out W1 (Far.refl _ _)
  have SD := Lib.hid (fun (w2 : World) (hf : Far (fun _ => False) W1 w2) => ((h.still hF1).still hf).side_any)
  have LN := Lib.hid (fun (w2 : World) (hf : Far (fun _ => False) W1 w2) => ((h.still hF1).still hf).len_any)
  rw [hL, hn] at LN
  have CE := Lib.hid (fun (w2 : World) (hf : Far (fun _ => False) W1 w2) => ((h.still hF1).still hf).cells_any)
  have FN := fn_nil2
  have hn' := Lib.hid hn
  have hh3' := Lib.hid hh3
  have hh4' := Lib.hid hh4
  have hW1' := Lib.hid hW1
  have hF1' := Lib.hid hF1
  have hB3' := Lib.hid hB3
  have hB4' := Lib.hid hB4
  have hcan' := Lib.hid hcan
  have hP' := Lib.hid hP
  have hL' := Lib.hid hL
  have hrise' := Lib.hid hrise
  have hp1' := Lib.hid hp1
  have hp2' := Lib.hid hp2
  have hnil' := Lib.hid hnil
  clear h hn hh3 hh4 hW1 hF1 hB3 hB4 hcan hP hL hrise hp1 hp2 hnil hwin
  refine (callsIn_wide (n := 10)).1 (callsIn_of_wp_marks Tryz.func12 rfl trivial (wpIn_wide.2 ?_) rfl)
  simp only [Tryz.ntmps12, List.size_toArray, List.length_cons, List.length_nil, Nat.reduceAdd, Nat.reduceSub, Array.replicate_succ, Array.replicate_zero, List.push_toArray, List.append_toArray, List.nil_append, List.cons_append]
  go_upto_region 1 with fail
  rw [← hh3'.out, ← hh4'.out, ← hW1'.out]
  go_cut [29] from 9 to 29 (fun tv wc => tv = .bool false ∧ Far (fun _ => False) W1 wc)
  case first =>
    rcases a with _ | a
    · have hsi : ((s : Int) == 0) = true := by have := hnil'.out; simp at this; simp [← this]
      go_region_held3 (fun w' => w'.cell? ⟨h3, 0, none⟩ = some (.int .i64 (s : Nat)) ∧ w'.cell? ⟨h3, 1, none⟩ = some (.slice ao n cap)) (go_keep)
        (first
          | (go_at_call 21; refine (SD.out _ (Far.refl _ W1).drew).mono ?_; rintro e w8 ⟨rfl, e8⟩; replace e8 := e8.symm; subst e8)
          | (go_at_call 38; refine (LN.out _ (Far.refl _ W1).drew).mono ?_; rintro e w9 ⟨rfl, hf9⟩; obtain ⟨r0, r1⟩ := HK.out w9 (((Far.refl _ W1).drew).then hf9); have hf9' := Lib.hid (((Far.refl _ W1).drew).then hf9); clear hf9))
      all_goals
        go_wp2_with fail
        go_meet
        exact ⟨rfl, hf9'.out⟩
    · have hsi : ((s : Int) == 0) = false := by have := hnil'.out; simp at this; simp; omega
      go_region_held3 (fun w' => w'.cell? ⟨h3, 0, none⟩ = some (.int .i64 (s : Nat)) ∧ w'.cell? ⟨h3, 1, none⟩ = some (.slice ao n cap)) (go_keep)
        (first
          | (go_at_call 21; refine (SD.out _ (Far.refl _ W1).drew).mono ?_; rintro e w8 ⟨rfl, e8⟩; replace e8 := e8.symm; subst e8)
          | (go_at_call 38; refine (LN.out _ (Far.refl _ W1).drew).mono ?_; rintro e w9 ⟨rfl, hf9⟩; obtain ⟨r0, r1⟩ := HK.out w9 (((Far.refl _ W1).drew).then hf9); have hf9' := Lib.hid (((Far.refl _ W1).drew).then hf9); clear hf9))
      all_goals
        go_wp2_with fail
        go_meet
        exact ⟨rfl, hf9'.out⟩
  case rest =>
    obtain ⟨rfl, hfc⟩ := hcut
    obtain ⟨h5, hh5⟩ : ∃ h, h = wc.heap.size := ⟨_, rfl⟩
    obtain ⟨W2, hW2⟩ : ∃ V, V = wc.alloc (.cells #[.int .i64 0] 3) := ⟨_, rfl⟩
    have hf2 : Far (fun _ => False) W1 W2 := hW2 ▸ hfc.alloc _
    have b5 : Bk W2 h5 3 #[.int .i64 0] := hW2 ▸ Bk.new hh5
    have CE2 := CE.out W2 hf2
    have h5l := Lib.hid (show w.heap.size ≤ h5 ∧ h4 < h5 from ⟨by rw [hh5]; exact (hF1'.out.then hfc).size, by rw [hh5]; exact (hB4'.out.far' hfc id).lt⟩)
    have hf2' := Lib.hid hf2
    have b5' := Lib.hid b5
    have hh5' := Lib.hid hh5
    have hW2' := Lib.hid hW2
    clear hfc hf2 b5 hh5 hW2 CE SD LN r0 r1
    go_upto_region 4 with fail
    rw [← hh5'.out, ← hW2'.out]
    go_wp2_with fail
    refine CE2.mono ?_
    rintro e W0 ⟨hb, vb, rfl, hbX, hbO, hbz, hf7⟩
    have b30 := Lib.hid (hB3'.out.far' (hf2'.out.then hf7) id)
    have b40 := Lib.hid (hB4'.out.far' (hf2'.out.then hf7) id)
    have b50 := Lib.hid (b5'.out.far' hf7 id)
    have hfw0 := Lib.hid (hF1'.out.then (hf2'.out.then hf7))
    have hTw0 := Lib.hid (hT.still hfw0.out)
    have hPw0 := Lib.hid (hP'.out.move hfw0.out)
    have hI0 : SI05 W0 h3 h4 h5 s n (.slice ao n cap) 0 W0 := ⟨b30.out, b40.out, b50.out, Far.refl _ _⟩
    have hI0' := Lib.hid hI0
    have hbX' := Lib.hid hbX
    have hbO' := Lib.hid hbO
    clear CE2 hbX hbO hbz hf7 hI0
    go_wp2_with fail
    refine (wpIn_wide (n := 10)).1 ?_
    obtain ⟨aov, capv, rfl⟩ := q_form hbO'.out
    obtain ⟨Q, hQ⟩ : ∃ L, placesL M s = L := ⟨_, rfl⟩
    rw [hQ] at hbO' hbX' hcan' hp1' hp2'
    have hLf := hp1'.out
    have hLp := hp2'.out
    clear hQ FN
    refine name_frame fun T hTT => ?_
    refine range_ok (by decide) (by rw [← hTT]; rfl) (enters_of Tryz.func73 (by kernel_rfl) rfl) (qcells_seq (10 - 1) (by decide) hb W2.heap.size _ M Q hLf hLp W0 hbX'.out hbO'.out hTw0.out) KT.trans (fun V l o o' hl h ho => KT.put (B := W0.heap.size) V l o o' hTw0.out.lt hl h ho) (fun _ => rfl)
      (fun pre V => SI05 W0 h3 h4 h5 s n (.slice ao n cap) pre.length V) (fun _ _ _ => False) ?own ?ownx hI0'.out
      (fun pre y a' V => ((pre ++ [y]) <+: cellsF M Q.length Q) ∧ a' = { tmps := ((((T.setIfInBounds 35 (.int .i64 (y.1 : Nat))).setIfInBounds 36 (.int .i64 (y.2 : Nat))).setIfInBounds 7 (.int .i64 (y.1 : Nat))).setIfInBounds 8 (.int .i64 (y.2 : Nat))), defers := [] }) ?hAx ?assign ?body ?done ?stop
    case own => exact fun u A B row h hg hr => SI05.go h hg hr
    case ownx => exact fun c u A B row h _ _ => h
    case hAx => exact fun pre y a' u A B row h _ _ => h
    case stop => exact fun D c pre V _ _ h _ => h.elim
    case assign =>
      intro l pre y V KK hI hok hK
      have hK' := hK _ V (KeepsFrom.refl _ _) (KT.refl _) hI ⟨hok, rfl⟩
      subst hTT
      simp only [encP, List.zip_toArray, List.zip_cons_cons, List.zip_nil_right, List.foldl_toArray', List.foldl_cons, List.foldl_nil, List.setIfInBounds_toArray, List.set_cons_succ, List.set_cons_zero] at hK' ⊢
      gi_wp2
      exact hK'
    case body =>
      rintro l pre y a' V hl hI ⟨hpre, rfl⟩
      rw [hcan'.out] at hpre
      obtain ⟨y1, y2⟩ := y
      have hplen := hpre.length_le
      rw [List.length_append, List.length_singleton, hn'.out] at hplen
      have hat : L[pre.length]? = some (y1, y2) := by
        obtain ⟨t, rfl⟩ := hpre
        rw [List.append_assoc, List.getElem?_append_right (Nat.le_refl _), Nat.sub_self]; rfl
      obtain ⟨g, off, rfl, hg, c0, c1⟩ := (hPw0.out.kept hI.far fun a e h e2 => by
        have hh := h5l.out
        obtain ⟨g9, o9, e9, hg9, _⟩ := hP'.out (by rw [hn'.out]; omega)
        rw [e] at e9; cases e9
        have : g9 = h5 := e2
        omega).at hat
      obtain ⟨k, hk⟩ : ∃ k, k = pre.length := ⟨_, rfl⟩
      rw [← hk] at c0 c1 hplen hI
      have c5 : V.cell? ⟨h5, 0, none⟩ = some (.int .i64 (k : Nat)) := hI.b5.cell 0
      have c31 : V.cell? ⟨h3, 1, none⟩ = some (.slice (some ⟨g, off, none⟩) n cap) := hI.b3.cell 1
      have f5 := hI.b5.free 0
      have hge : ¬ (n : Int) ≤ (k : Int) := by omega
      have hki : (k : Int) < (n : Int) := by omega
      have hkb : (k : Int) + 1 ≤ 9223372036854775807 := by omega
      have hI' := Lib.hid hI
      have hk' := Lib.hid hk
      subst hTT
      simp only [List.setIfInBounds_toArray, List.set_cons_succ, List.set_cons_zero]
      clear hpre hI hk hat
      gi_wp2
      have hI := hI'.out
      have hh := h5l.out
      have hfa : Far (fun q => q = h5) V (V.setCell ⟨h5, 0, none⟩ (.int .i64 ((k : Int) + 1))) := (Far.refl _ V).set _ _ fun _ => rfl
      have hzV := hI.far.size
      have hTl := hT.lt
      have e4 := hh4'.out
      have e3 := hh3'.out
      refine ⟨keeps_far hfa fun q hq => by subst hq; exact ⟨_, _, hI.b5⟩, KT.ofFar hfa (by have := hTw0.out.lt; omega) fun q hq => ?_, ?_⟩
      · subst hq
        refine ⟨by omega, fun cs t hb => ?_⟩
        have := bk_type hb hI.b5
        subst this
        decide
      · refine ⟨hI.b3.far' hfa (by omega), hI.b4.far' hfa (by omega), ?_, hI.far.trans hfa fun _ _ h => h⟩
        have := hI.b5.set 0 (.int .i64 ((k : Int) + 1))
        rw [List.length_append, List.length_singleton, ← hk'.out, Int.natCast_add]
        exact this
    case done =>
      rintro D xs V hD rfl hI hK
      rw [hcan'.out, hn'.out] at hI
      have c5 : V.cell? ⟨h5, 0, none⟩ = some (.int .i64 (n : Nat)) := hI.b5.cell 0
      have c31 : V.cell? ⟨h3, 1, none⟩ = some (.slice ao n cap) := hI.b3.cell 1
      have g0 : V.cell? ⟨h4, 0, none⟩ = some (.bool false) := hI.b4.cell 0
      have g1 := hI.b4.free 0
      have hD4 : D ≠ h4 := fun e => by subst e; have := b40.out.lt; omega
      have hKS := Lib.hid ((heap_setCell_other V ⟨h4, 0, none⟩ D (.bool true) hD4).trans hK)
      have R1 := Lib.hid (show Bk ((V.setCell ⟨h4, 0, none⟩ (.bool true)).putObj D (.deferred none)) h4 4 #[.bool true] from (World.putObj_heap_other (fun e => hD4 e.symm)).trans (hI.b4.set 0 (.bool true)))
      have hZ := Lib.hid (show Far (fun k => w.heap.size ≤ k) w ((V.setCell ⟨h4, 0, none⟩ (.bool true)).putObj D (.deferred none)) from
        (((hfw0.out.mono (G := fun k => w.heap.size ≤ k) fun _ _ h => h.elim).trans (G := fun k => w.heap.size ≤ k) (hI.far.mono fun k _ e => by have := h5l.out; omega) fun _ _ h => h).set ⟨h4, 0, none⟩ (.bool true) (fun _ => by have := hh4'.out; have := hh3'.out; show w.heap.size ≤ h4; omega)).grown (grownBy_putObj' _ D (.deferred none)) (fun k hk e => by cases e; have := hfw0.out.size; omega))
      subst hTT
      clear hI hK
      go_wp2_with fail
      refine ⟨by simp, .inl ⟨D, _, rfl, run_takeDeferred hKS.out, ?_⟩⟩
      refine ⟨.bool true, ?_, rfl, hZ.out.mono fun k hk h => by omega⟩
      have hc := R1.out.cell 0
      simp [results, Tryz.f12, go_sem, hc]
end
end Go.Proofs.YtjolkhiggcmoiaaGreatDoor
