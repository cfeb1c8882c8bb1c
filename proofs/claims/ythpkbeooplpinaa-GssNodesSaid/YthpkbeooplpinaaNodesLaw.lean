/-
  GssNodes: the law walked.
-/
import Derived.Test.YthpkbeooplpinaaNodesPre
import Derived.Deep.DeepCutAuto
import Derived.Deep.RegionWith
namespace Go.Proofs.Ythpkbeooplpinaa
open Go.RowKit
set_option linter.unusedVariables false
set_option linter.unusedSimpArgs false
def wantOf (o : Option Nat) (k n : Nat) : Nat := match o with
  | none => n
  | some j => if j < k then j else n
theorem want_hit {k n : Nat} : wantOf (some k) (k + 1) n = k := if_pos (Nat.lt_succ_self k)
theorem want_miss {o : Option Nat} {k n : Nat} (h : o ≠ some k) : wantOf o (k + 1) n = wantOf o k n := by
  cases o with
  | none => rfl
  | some j =>
    have : j ≠ k := fun e => h (by rw [e])
    by_cases hj : j < k
    · exact (if_pos (by omega)).trans (if_pos hj).symm
    · exact (if_neg (by omega)).trans (if_neg hj).symm
theorem want_end {l : List Nd} {a b : Int} {j : Nat} (h : look l a b = some j) : wantOf (look l a b) l.length l.length = j := by
  obtain ⟨r, hr, _⟩ := look_some h
  rw [h]; exact if_pos (List.getElem?_eq_some_iff.1 hr).1
/-- What Node leaves. -/
structure NodeOut (w w' : World) (B K : Nat) (l : List Nd) (F : Nat → Prop) (a b : Int) (j : Nat) (fr : Bool) (l' : List Nd) (F' : Nat → Prop) : Prop where
  stk : Stk w' B (K + 1) l' F'
  moves : Moves w w' F F'
  out : (fr = false ∧ look l a b = some j ∧ l' = l) ∨ (fr = true ∧ look l a b = none ∧ j = l.length ∧ l' = l ++ [⟨a, b, [], []⟩])
theorem node_stk {w : World} {B K : Nat} {l : List Nd} {F : Nat → Prop} (h : Stk w B K l F) (hK : K < 1000000) {a b : Int} (ha : Fit a) (hb : Fit b) :
    Calls Try.prog 9 #[.pointer (some ⟨B, 0, none⟩), .int .i64 a, .int .i64 b] w fun e w' => ∃ j fr l' F', e = .returned (.tuple #[.int .i64 (j : Nat), .bool fr]) ∧ NodeOut w w' B K l F a b j fr l' F' := by
  cases hl : look l a b with
  | none => exact (node_new_stk h hK ha hb hl).mono fun e w' ⟨he, F', hS, hM⟩ => ⟨_, _, _, F', he, hS, hM, .inr ⟨rfl, hl, rfl, rfl⟩⟩
  | some j => exact (node_old_stk h ha hb hl).mono fun e w' ⟨he, hf⟩ => ⟨_, _, _, F, he, (h.still hf).mono (Nat.le_succ K), Moves.still hf, .inl ⟨rfl, hl, rfl⟩⟩
theorem drew_far (w : World) : Far (fun _ => False) w w.drew := (Far.refl _ w).drew
section
set_option maxHeartbeats 1600000
set_option maxRecDepth 100000
theorem nodes_law (W : World) (ao : Option Addr) (n cap : Nat) (f : Nat → Int × Int) (hn : n ≤ cap) (hf : ∀ k, k < n → Fit (f k).1 ∧ Fit (f k).2) (hP : Prs W ao n f) (hcm : cap ≤ maxLen) :
    Calls Try.prog 6 #[.slice ao n cap] W fun e w' => e = .returned (.bool true) ∧ Below W.heap.size W w' := by
  unfold maxLen at hcm
  by_cases hbig : 200 < n
  · obtain ⟨g, off, rfl, hg, hx⟩ := hP (by omega)
    have d1 : decide ((200 : Int) < (n : Int)) = true := by rw [decide_eq_true_eq]; omega
    have hc200 : 200 ≤ cap := by omega
    have hc200' : (200 : Int) ≤ (cap : Int) := by omega
    have hX := Lib.hid hx
    have hF := Lib.hid hf
    clear hx hf hP hn
    go_enter Try.func6, Try.ntmps6
    go_wp2_with fail
    refine (new_stk _).mono ?_
    rintro e w1 ⟨rfl, F0, hS0, hF0, hf0⟩
    generalize W.heap.size + 3 = B at hS0 ⊢
    go_wp2_with fail
    go_loopw [4, 5] (fun mv iv wr => ∃ (i : Nat) (l : List Nd) (F : Nat → Prop) (mo : Option Addr) (mc : Nat), mv = .slice mo l.length mc ∧ iv = .int .i64 i ∧ i ≤ 200 ∧ Stk wr B i l F ∧ Dist l ∧ wr.ownsRow W.heap.size 70 2 (.slice mo l.length mc) l.length (fcells (spots l)) ∧ (∀ k, F k → W.heap.size ≤ k) ∧ Far (fun _ => False) W wr) (fun _ iv _ => 200 - (intOf iv).toNat)
    case atStart => exact ⟨0, [], F0, none, 0, rfl, rfl, Nat.zero_le _, hS0, fun i r h => by simp at h, World.ownsRow_nil _ _ _ _, hF0, hf0⟩
    case round =>
      clear hS0 hF0 hf0
      obtain ⟨i, l, F, mo, mc, rfl, rfl, hi, hS, hD, hO, hF0, hW⟩ := hrel
      have hlk := hS.many
      by_cases hlt : i < 200
      · have d2 : decide ((i : Int) < (200 : Int)) = true := by rw [decide_eq_true_eq]; omega
        have hX' := hX
        obtain ⟨hfa, hfb⟩ := hF.out i (by omega)
        obtain ⟨hx0, hx1⟩ := hX'.out i (by omega)
        generalize hfi : f i = p at *
        obtain ⟨a, b⟩ := p
        simp only [] at hfa hfb hx0 hx1
        have k0 : wr.cell? ⟨g, off + i * 2, none⟩ = some (.int .i64 a) := (hW.cell hg).trans hx0
        have k1 : wr.cell? ⟨g, off + i * 2 + 1, none⟩ = some (.int .i64 b) := (hW.cell hg).trans hx1
        have hglt : g < wr.heap.size := Nat.lt_of_lt_of_le hg hW.size
        have hi1 : (i : Int) < (200 : Int) := by omega
        have NC := node_stk (hS.still (drew_far wr)) (by omega) hfa hfb
        have hS' := Lib.hid hS
        have hD' := Lib.hid hD
        have hO' := Lib.hid hO
        have hF0' := Lib.hid hF0
        have hW' := Lib.hid hW
        have hfi' := Lib.hid hfi
        have hx0' := Lib.hid hx0
        have hx1' := Lib.hid hx1
        clear hS hD hO hF0 hW hfi hx0 hx1
        go_upto_region 8 with fail
        go_cut [6, 7] (fun nv fv wx => ∃ (j : Nat) (fr : Bool) (l' : List Nd) (F' : Nat → Prop), nv = .int .i64 j ∧ fv = .bool fr ∧ NodeOut wr.drew wx B i l F a b j fr l' F')
        case first =>
          go_region_with ((with_reducible refine NC.mono ?_); rintro e w2 ⟨j, fr, l', F', rfl, hNO⟩; have hNO' := Lib.hid hNO; clear hNO)
          all_goals (go_wp2_with fail; go_meet; exact ⟨j, fr, l', F', rfl, rfl, hNO'.out⟩)
        case rest =>
          obtain ⟨j, fr, l', F', rfl, rfl, hNO⟩ := hcut
          have hDw := drew_far wr
          have hFx : ∀ k, F' k → W.heap.size ≤ k := fun k hk => by
            rcases hNO.moves.more k hk with h | h
            · exact hF0'.out k h
            · exact Nat.le_trans hW'.out.size (Nat.le_trans hDw.size h)
          have hMf : Far F wr wc := (hDw.mono (G := F) fun _ _ h => h.elim).trans hNO.moves.far fun _ _ h => h
          have hOx : wc.ownsRow W.heap.size 70 2 (.slice mo l.length mc) l.length (fcells (spots l)) := row_same hO'.out fun k hk hlt' => hMf.block k hlt' fun hF => hS'.out.apart hO'.out (by decide) (by decide) (by decide) (by decide) k hF hk
          have hWx : Far (fun _ => False) W wc := hW'.out.trans hMf fun k hk hF => by have := hF0'.out k hF; omega
          have hSx := hNO.stk
          have hout := hNO.out
          have hglx : g < wc.heap.size := Nat.lt_of_lt_of_le hg hWx.size
          have hSx' := Lib.hid hSx
          have hFx' := Lib.hid hFx
          have hOx' := Lib.hid hOx
          have hWx' := Lib.hid hWx
          clear hNO hFx hMf hOx hWx hSx hDw NC k0 k1 hglt
          clear hS' hO' hW' hF0'
          rcases hout with ⟨rfl, hlo, hl'⟩ | ⟨rfl, hlo, hj, hl'⟩
          · obtain ⟨r0, hr0, hr1, hr2⟩ := look_some hlo
            have hjl : j < l.length := (List.getElem?_eq_some_iff.1 hr0).1
            have hlo' := Lib.hid hlo
            have hl'' := Lib.hid hl'
            have hr0' := Lib.hid hr0
            have hr1' := Lib.hid hr1
            have hr2' := Lib.hid hr2
            clear hlo hl' hr0 hr1 hr2
            go_wp2_with fail
            go_loopw [8, 9] (fun wv kv w3 => ∃ (k : Nat), kv = .int .i64 k ∧ k ≤ l.length ∧ wv = .int .i64 (wantOf (look l a b) k l.length : Nat) ∧ Far (fun _ => False) wc w3) (fun _ kv _ => l.length - (intOf kv).toNat)
            case atStart => exact ⟨0, rfl, Nat.zero_le _, by cases h : look l a b <;> simp [wantOf], Far.refl _ wc⟩
            case round =>
              obtain ⟨k, rfl, hk, rfl, hw3⟩ := hrel
              by_cases hkl : k < l.length
              · have e1 : decide ((k : Int) < (l.length : Int)) = true := by rw [decide_eq_true_eq]; omega
                obtain ⟨rk, hrk⟩ : ∃ rk, l[k]? = some rk := ⟨l[k], by simp [hkl]⟩
                have hO3 := row_same hOx'.out fun k hk hlt' => hw3.block k hlt' id
                obtain ⟨mg, mc', hmo, _⟩ := hO3.form (by omega)
                simp only [Value.slice.injEq] at hmo
                obtain ⟨rfl, _, rfl⟩ := hmo
                have hsk : (spots l)[k]? = some (rk.mark, rk.place) := by simp [spots, hrk]
                have m0 : wr.cell? ⟨mg, k * 2, none⟩ = some (.int .i64 rk.mark) := by rw [hO3.cellAt _ (by omega)]; exact (fcells_get hsk).1
                have m1 : wr.cell? ⟨mg, k * 2 + 1, none⟩ = some (.int .i64 rk.place) := by rw [hO3.cellAt _ (by omega)]; exact (fcells_get hsk).2
                have hW3 := hWx'.out.trans hw3 fun _ _ h => h
                have k2 : wr.cell? ⟨g, off + i * 2, none⟩ = some (.int .i64 a) := (hW3.cell hg).trans hx0'.out
                have k3 : wr.cell? ⟨g, off + i * 2 + 1, none⟩ = some (.int .i64 b) := (hW3.cell hg).trans hx1'.out
                have hki : (k : Int) < (l.length : Int) := by omega
                have EQ := eq_arr2 rk.mark rk.place a b
                have hw3' := Lib.hid hw3
                have hrk' := Lib.hid hrk
                have hDk := hD'.out k rk hrk
                have hDk' := Lib.hid hDk
                clear hO3 hW3 hw3 hrk hsk hDk
                cases hb : (rk.mark == a && rk.place == b)
                · rw [hb] at EQ
                  have hmiss : look l a b ≠ some k := fun e => by
                    obtain ⟨r, hr, h1, h2⟩ := look_some e
                    rw [hrk'.out] at hr; cases hr
                    rw [h1, h2] at hb; simp at hb
                  have hwm := want_miss (n := l.length) hmiss
                  have hwm' := Lib.hid hwm
                  clear hmiss hwm hb
                  go_wp2_with fail
                  go_quiet (fail)
                  go_wp2_with fail
                  go_roundw
                  case rel => exact ⟨k + 1, by go_num, by omega, by rw [hwm'.out], hw3'.out.drewN _⟩
                  case measure => simp [intOf]; omega
                · rw [hb] at EQ
                  have hhit : look l a b = some k := by
                    simp at hb
                    rw [← hb.1, ← hb.2]; exact hDk'.out
                  have hhit' := Lib.hid hhit
                  clear hhit hb
                  go_wp2_with fail
                  go_quiet (fail)
                  go_wp2_with fail
                  go_roundw
                  case rel => exact ⟨k + 1, by go_num, by omega, by rw [hhit'.out, want_hit], hw3'.out.drewN _⟩
                  case measure => simp [intOf]; omega
              · have e1 : decide ((k : Int) < (l.length : Int)) = false := by rw [decide_eq_false_iff_not]; omega
                have hkl : k = l.length := by omega
                subst hkl
                have hwe := want_end hlo'.out
                rw [hwe]
                have hne : ((j : Int) == (l.length : Int)) = false := by rw [beq_eq_false_iff_ne]; omega
                have hS3 := Lib.hid ((hl''.out ▸ hSx'.out : Stk wc B (i + 1) l F').still hw3)
                have hW3 := Lib.hid (hWx'.out.trans hw3 fun _ _ h => h)
                have hO3 := Lib.hid (row_same hOx'.out fun k hk hlt' => hw3.block k hlt' id)
                have AT := at_ok_stk hS3.out (by omega) hr0'.out
                rw [hr1'.out, hr2'.out] at AT
                clear hwe hw3
                go_wp2_with fail
                refine AT.mono ?_
                rintro e w4 ⟨rfl, hf4⟩
                have k2 : w4.cell? ⟨g, off + i * 2, none⟩ = some (.int .i64 a) := ((hW3.out.trans hf4 fun _ _ h => h).cell hg).trans hx0'.out
                have k3 : w4.cell? ⟨g, off + i * 2 + 1, none⟩ = some (.int .i64 b) := ((hW3.out.trans hf4 fun _ _ h => h).cell hg).trans hx1'.out
                have hf4' := Lib.hid hf4
                clear hf4 AT
                go_wp2_with fail
                go_roundw
                case rel => exact ⟨i + 1, l, F', mo, mc, rfl, by go_num, by omega, hS3.out.still hf4'.out, hD'.out, row_same hO3.out fun k hk hlt' => hf4'.out.block k hlt' id, hFx'.out, hW3.out.trans hf4'.out fun _ _ h => h⟩
                case measure => simp [intOf]; omega
          · have hlo' := Lib.hid hlo
            have hl'' := Lib.hid hl'
            have hj' := Lib.hid hj
            clear hlo hl' hj
            go_wp2_with fail
            go_loopw [8, 9] (fun wv kv w3 => ∃ (k : Nat), kv = .int .i64 k ∧ k ≤ l.length ∧ wv = .int .i64 (wantOf (look l a b) k l.length : Nat) ∧ Far (fun _ => False) wc w3) (fun _ kv _ => l.length - (intOf kv).toNat)
            case atStart => exact ⟨0, rfl, Nat.zero_le _, by cases h : look l a b <;> simp [wantOf], Far.refl _ wc⟩
            case round =>
              obtain ⟨k, rfl, hk, rfl, hw3⟩ := hrel
              by_cases hkl : k < l.length
              · have e1 : decide ((k : Int) < (l.length : Int)) = true := by rw [decide_eq_true_eq]; omega
                obtain ⟨rk, hrk⟩ : ∃ rk, l[k]? = some rk := ⟨l[k], by simp [hkl]⟩
                have hO3 := row_same hOx'.out fun k hk hlt' => hw3.block k hlt' id
                obtain ⟨mg, mc', hmo, _⟩ := hO3.form (by omega)
                simp only [Value.slice.injEq] at hmo
                obtain ⟨rfl, _, rfl⟩ := hmo
                have hsk : (spots l)[k]? = some (rk.mark, rk.place) := by simp [spots, hrk]
                have m0 : wr.cell? ⟨mg, k * 2, none⟩ = some (.int .i64 rk.mark) := by rw [hO3.cellAt _ (by omega)]; exact (fcells_get hsk).1
                have m1 : wr.cell? ⟨mg, k * 2 + 1, none⟩ = some (.int .i64 rk.place) := by rw [hO3.cellAt _ (by omega)]; exact (fcells_get hsk).2
                have hW3 := hWx'.out.trans hw3 fun _ _ h => h
                have k2 : wr.cell? ⟨g, off + i * 2, none⟩ = some (.int .i64 a) := (hW3.cell hg).trans hx0'.out
                have k3 : wr.cell? ⟨g, off + i * 2 + 1, none⟩ = some (.int .i64 b) := (hW3.cell hg).trans hx1'.out
                have hki : (k : Int) < (l.length : Int) := by omega
                have EQ := eq_arr2 rk.mark rk.place a b
                have hw3' := Lib.hid hw3
                have hrk' := Lib.hid hrk
                have hDk := hD'.out k rk hrk
                have hDk' := Lib.hid hDk
                clear hO3 hW3 hw3 hrk hsk hDk
                cases hb : (rk.mark == a && rk.place == b)
                · rw [hb] at EQ
                  have hmiss : look l a b ≠ some k := fun e => by
                    obtain ⟨r, hr, h1, h2⟩ := look_some e
                    rw [hrk'.out] at hr; cases hr
                    rw [h1, h2] at hb; simp at hb
                  have hwm := want_miss (n := l.length) hmiss
                  have hwm' := Lib.hid hwm
                  clear hmiss hwm hb
                  go_wp2_with fail
                  go_quiet (fail)
                  go_wp2_with fail
                  go_roundw
                  case rel => exact ⟨k + 1, by go_num, by omega, by rw [hwm'.out], hw3'.out.drewN _⟩
                  case measure => simp [intOf]; omega
                · rw [hb] at EQ
                  have hhit : look l a b = some k := by
                    simp at hb
                    rw [← hb.1, ← hb.2]; exact hDk'.out
                  have hhit' := Lib.hid hhit
                  clear hhit hb
                  go_wp2_with fail
                  go_quiet (fail)
                  go_wp2_with fail
                  go_roundw
                  case rel => exact ⟨k + 1, by go_num, by omega, by rw [hhit'.out, want_hit], hw3'.out.drewN _⟩
                  case measure => simp [intOf]; omega
              · have e1 : decide ((k : Int) < (l.length : Int)) = false := by rw [decide_eq_false_iff_not]; omega
                have hkl : k = l.length := by omega
                subst hkl
                rw [hlo'.out]
                simp only [wantOf]
                rw [hj'.out]
                have hS3 := Lib.hid ((hl''.out ▸ hSx'.out : Stk wc B (i + 1) (l ++ [⟨a, b, [], []⟩]) F').still hw3)
                have hW3 := Lib.hid (hWx'.out.trans hw3 fun _ _ h => h)
                have hO3 := Lib.hid (row_same hOx'.out fun k hk hlt' => hw3.block k hlt' id)
                have k2 : wr.cell? ⟨g, off + i * 2, none⟩ = some (.int .i64 a) := (hW3.out.cell hg).trans hx0'.out
                have k3 : wr.cell? ⟨g, off + i * 2 + 1, none⟩ = some (.int .i64 b) := (hW3.out.cell hg).trans hx1'.out
                obtain ⟨inf, hinf, hz0, hz1, hz2⟩ := info_parts info_arr2
                have A1 := Lib.hid (hO3.out.alloc (.cells #[.int .i64 a, .int .i64 b] 70))
                have A2 := Lib.hid (World.news_of_block (w := wr.alloc (.cells #[.int .i64 a, .int .i64 b] 70)) (cs := #[.int .i64 a, .int .i64 b]) (t := 70) (fr := (0, 0)) (heap_alloc_new wr _))
                have A3 : ∀ u ∈ [Value.int .i64 a, .int .i64 b], u.oneCell' = true := by simp [Value.oneCell']
                have A4 : l.length + 1 ≤ maxLen := by unfold maxLen; omega
                have A5 : (l.length + 1) * 16 ≤ 140737488355328 := by omega
                have A6 : W.heap.size ≤ (wr.alloc (.cells #[.int .i64 a, .int .i64 b] 70)).heap.size := by have := hW3.out.size; simp; omega
                have hgw3 : g < wr.heap.size := Nat.lt_of_lt_of_le hg hW3.out.size
                clear hw3
                go_wp2_with (at_builtin; refine wpList_append_lies _ rfl _ _ 69 rfl W.heap.size 70 inf _ 2 16 Try.underlying69 hinf hz0 hz1 hz2 rfl (by decide) (.slice mo l.length mc) l.length _ rfl A1.out ⟨wr.heap.size, 0, none⟩ 1 1 _ rfl rfl A2.out A3 (by decide) A4 A5 A6 _ rfl ?_; intro fg fcap w4 ho4 hg4 hat4 hl4)
                have hg4' := Lib.hid hg4
                have ho4' := Lib.hid ho4
                clear hg4 ho4
                have hR4 : Far (fun k => (Value.slice mo l.length mc).ownBlock = some k) wr w4 := ((Far.refl _ wr).alloc _).grown hg4'.out fun k _ e => e
                have hS4 := Lib.hid (hS3.out.kept hR4 fun k hk e => hS3.out.apart hO3.out (by decide) (by decide) (by decide) (by decide) k hk e)
                have hW4 := Lib.hid (hW3.out.trans hR4 fun k hk e => by have := (hO3.out.lt k e).1; omega)
                have hO4 : w4.ownsRow W.heap.size 70 2 (.slice (some ⟨fg, 0, none⟩) (l.length + 1) fcap) (l.length + 1) (fcells (spots (l ++ [⟨a, b, [], []⟩]))) := by
                  rw [show spots (l ++ [⟨a, b, [], []⟩]) = spots l ++ [(a, b)] by simp [spots], fcells_app]
                  exact ho4'.out
                have hO4' := Lib.hid hO4
                have AT := at_ok_stk (i := l.length) (r := ⟨a, b, [], []⟩) hS4.out (by omega) (by simp)
                clear hR4 hO4 hat4 A1 A2 A3 A4 A5 A6 k2 k3
                go_wp2_with fail
                refine AT.mono ?_
                rintro e w5 ⟨rfl, hf5⟩
                have k2 : w5.cell? ⟨g, off + i * 2, none⟩ = some (.int .i64 a) := ((hW4.out.trans hf5 fun _ _ h => h).cell hg).trans hx0'.out
                have k3 : w5.cell? ⟨g, off + i * 2 + 1, none⟩ = some (.int .i64 b) := ((hW4.out.trans hf5 fun _ _ h => h).cell hg).trans hx1'.out
                have hf5' := Lib.hid hf5
                clear hf5 AT
                go_wp2_with fail
                go_roundw
                case rel => exact ⟨i + 1, l ++ [⟨a, b, [], []⟩], F', some ⟨fg, 0, none⟩, fcap, by simp, by go_num, by omega, hS4.out.still hf5'.out, hD'.out.more hlo'.out, by rw [List.length_append]; exact row_same hO4'.out fun k hk hlt' => hf5'.out.block k hlt' id, hFx'.out, hW4.out.trans hf5'.out fun _ _ h => h⟩
                case measure => simp [intOf]; omega
      · have d2 : decide ((i : Int) < (200 : Int)) = false := by rw [decide_eq_false_iff_not]; omega
        have hS' := Lib.hid hS
        have hW' := Lib.hid hW
        have LN := len_stk hS
        have AW := awake_any wr
        clear hS hD hO hF0 hW
        go_wp2_with (first | ((with_reducible refine LN.mono ?_); rintro e w' ⟨rfl, rfl⟩) | ((with_reducible refine AW.mono ?_); rintro e w' ⟨rfl, hfw⟩))
        go_ret
        exact ⟨rfl, (hW'.out.trans hfw fun _ _ h => h).below (Nat.le_refl _) fun _ _ h => h⟩
  · have d1 : decide ((200 : Int) < (n : Int)) = false := by rw [decide_eq_false_iff_not]; omega
    have hF := Lib.hid hf
    have hX := Lib.hid hP
    clear hf hP hn
    go_enter Try.func6, Try.ntmps6
    go_wp2_with fail
    refine (new_stk _).mono ?_
    rintro e w1 ⟨rfl, F0, hS0, hF0, hf0⟩
    generalize W.heap.size + 3 = B at hS0 ⊢
    go_wp2_with fail
    go_loopw [4, 5] (fun mv iv wr => ∃ (i : Nat) (l : List Nd) (F : Nat → Prop) (mo : Option Addr) (mc : Nat), mv = .slice mo l.length mc ∧ iv = .int .i64 i ∧ i ≤ n ∧ Stk wr B i l F ∧ Dist l ∧ wr.ownsRow W.heap.size 70 2 (.slice mo l.length mc) l.length (fcells (spots l)) ∧ (∀ k, F k → W.heap.size ≤ k) ∧ Far (fun _ => False) W wr) (fun _ iv _ => n - (intOf iv).toNat)
    case atStart => exact ⟨0, [], F0, none, 0, rfl, rfl, Nat.zero_le _, hS0, fun i r h => by simp at h, World.ownsRow_nil _ _ _ _, hF0, hf0⟩
    case round =>
      clear hS0 hF0 hf0
      obtain ⟨i, l, F, mo, mc, rfl, rfl, hi, hS, hD, hO, hF0, hW⟩ := hrel
      have hlk := hS.many
      by_cases hlt : i < n
      · have d2 : decide ((i : Int) < (n : Int)) = true := by rw [decide_eq_true_eq]; omega
        obtain ⟨g, off, rfl, hg, hx⟩ := hX.out (by omega)
        have hX' := Lib.hid hx
        clear hx
        obtain ⟨hfa, hfb⟩ := hF.out i (by omega)
        obtain ⟨hx0, hx1⟩ := hX'.out i (by omega)
        generalize hfi : f i = p at *
        obtain ⟨a, b⟩ := p
        simp only [] at hfa hfb hx0 hx1
        have k0 : wr.cell? ⟨g, off + i * 2, none⟩ = some (.int .i64 a) := (hW.cell hg).trans hx0
        have k1 : wr.cell? ⟨g, off + i * 2 + 1, none⟩ = some (.int .i64 b) := (hW.cell hg).trans hx1
        have hglt : g < wr.heap.size := Nat.lt_of_lt_of_le hg hW.size
        have hi1 : (i : Int) < (n : Int) := by omega
        have NC := node_stk (hS.still (drew_far wr)) (by omega) hfa hfb
        have hS' := Lib.hid hS
        have hD' := Lib.hid hD
        have hO' := Lib.hid hO
        have hF0' := Lib.hid hF0
        have hW' := Lib.hid hW
        have hfi' := Lib.hid hfi
        have hx0' := Lib.hid hx0
        have hx1' := Lib.hid hx1
        clear hS hD hO hF0 hW hfi hx0 hx1
        go_upto_region 8 with fail
        go_cut [6, 7] (fun nv fv wx => ∃ (j : Nat) (fr : Bool) (l' : List Nd) (F' : Nat → Prop), nv = .int .i64 j ∧ fv = .bool fr ∧ NodeOut wr.drew wx B i l F a b j fr l' F')
        case first =>
          go_region_with ((with_reducible refine NC.mono ?_); rintro e w2 ⟨j, fr, l', F', rfl, hNO⟩; have hNO' := Lib.hid hNO; clear hNO)
          all_goals (go_wp2_with fail; go_meet; exact ⟨j, fr, l', F', rfl, rfl, hNO'.out⟩)
        case rest =>
          obtain ⟨j, fr, l', F', rfl, rfl, hNO⟩ := hcut
          have hDw := drew_far wr
          have hFx : ∀ k, F' k → W.heap.size ≤ k := fun k hk => by
            rcases hNO.moves.more k hk with h | h
            · exact hF0'.out k h
            · exact Nat.le_trans hW'.out.size (Nat.le_trans hDw.size h)
          have hMf : Far F wr wc := (hDw.mono (G := F) fun _ _ h => h.elim).trans hNO.moves.far fun _ _ h => h
          have hOx : wc.ownsRow W.heap.size 70 2 (.slice mo l.length mc) l.length (fcells (spots l)) := row_same hO'.out fun k hk hlt' => hMf.block k hlt' fun hF => hS'.out.apart hO'.out (by decide) (by decide) (by decide) (by decide) k hF hk
          have hWx : Far (fun _ => False) W wc := hW'.out.trans hMf fun k hk hF => by have := hF0'.out k hF; omega
          have hSx := hNO.stk
          have hout := hNO.out
          have hglx : g < wc.heap.size := Nat.lt_of_lt_of_le hg hWx.size
          have hSx' := Lib.hid hSx
          have hFx' := Lib.hid hFx
          have hOx' := Lib.hid hOx
          have hWx' := Lib.hid hWx
          clear hNO hFx hMf hOx hWx hSx hDw NC k0 k1 hglt
          clear hS' hO' hW' hF0'
          rcases hout with ⟨rfl, hlo, hl'⟩ | ⟨rfl, hlo, hj, hl'⟩
          · obtain ⟨r0, hr0, hr1, hr2⟩ := look_some hlo
            have hjl : j < l.length := (List.getElem?_eq_some_iff.1 hr0).1
            have hlo' := Lib.hid hlo
            have hl'' := Lib.hid hl'
            have hr0' := Lib.hid hr0
            have hr1' := Lib.hid hr1
            have hr2' := Lib.hid hr2
            clear hlo hl' hr0 hr1 hr2
            go_wp2_with fail
            go_loopw [8, 9] (fun wv kv w3 => ∃ (k : Nat), kv = .int .i64 k ∧ k ≤ l.length ∧ wv = .int .i64 (wantOf (look l a b) k l.length : Nat) ∧ Far (fun _ => False) wc w3) (fun _ kv _ => l.length - (intOf kv).toNat)
            case atStart => exact ⟨0, rfl, Nat.zero_le _, by cases h : look l a b <;> simp [wantOf], Far.refl _ wc⟩
            case round =>
              obtain ⟨k, rfl, hk, rfl, hw3⟩ := hrel
              by_cases hkl : k < l.length
              · have e1 : decide ((k : Int) < (l.length : Int)) = true := by rw [decide_eq_true_eq]; omega
                obtain ⟨rk, hrk⟩ : ∃ rk, l[k]? = some rk := ⟨l[k], by simp [hkl]⟩
                have hO3 := row_same hOx'.out fun k hk hlt' => hw3.block k hlt' id
                obtain ⟨mg, mc', hmo, _⟩ := hO3.form (by omega)
                simp only [Value.slice.injEq] at hmo
                obtain ⟨rfl, _, rfl⟩ := hmo
                have hsk : (spots l)[k]? = some (rk.mark, rk.place) := by simp [spots, hrk]
                have m0 : wr.cell? ⟨mg, k * 2, none⟩ = some (.int .i64 rk.mark) := by rw [hO3.cellAt _ (by omega)]; exact (fcells_get hsk).1
                have m1 : wr.cell? ⟨mg, k * 2 + 1, none⟩ = some (.int .i64 rk.place) := by rw [hO3.cellAt _ (by omega)]; exact (fcells_get hsk).2
                have hW3 := hWx'.out.trans hw3 fun _ _ h => h
                have k2 : wr.cell? ⟨g, off + i * 2, none⟩ = some (.int .i64 a) := (hW3.cell hg).trans hx0'.out
                have k3 : wr.cell? ⟨g, off + i * 2 + 1, none⟩ = some (.int .i64 b) := (hW3.cell hg).trans hx1'.out
                have hki : (k : Int) < (l.length : Int) := by omega
                have EQ := eq_arr2 rk.mark rk.place a b
                have hw3' := Lib.hid hw3
                have hrk' := Lib.hid hrk
                have hDk := hD'.out k rk hrk
                have hDk' := Lib.hid hDk
                clear hO3 hW3 hw3 hrk hsk hDk
                cases hb : (rk.mark == a && rk.place == b)
                · rw [hb] at EQ
                  have hmiss : look l a b ≠ some k := fun e => by
                    obtain ⟨r, hr, h1, h2⟩ := look_some e
                    rw [hrk'.out] at hr; cases hr
                    rw [h1, h2] at hb; simp at hb
                  have hwm := want_miss (n := l.length) hmiss
                  have hwm' := Lib.hid hwm
                  clear hmiss hwm hb
                  go_wp2_with fail
                  go_quiet (fail)
                  go_wp2_with fail
                  go_roundw
                  case rel => exact ⟨k + 1, by go_num, by omega, by rw [hwm'.out], hw3'.out.drewN _⟩
                  case measure => simp [intOf]; omega
                · rw [hb] at EQ
                  have hhit : look l a b = some k := by
                    simp at hb
                    rw [← hb.1, ← hb.2]; exact hDk'.out
                  have hhit' := Lib.hid hhit
                  clear hhit hb
                  go_wp2_with fail
                  go_quiet (fail)
                  go_wp2_with fail
                  go_roundw
                  case rel => exact ⟨k + 1, by go_num, by omega, by rw [hhit'.out, want_hit], hw3'.out.drewN _⟩
                  case measure => simp [intOf]; omega
              · have e1 : decide ((k : Int) < (l.length : Int)) = false := by rw [decide_eq_false_iff_not]; omega
                have hkl : k = l.length := by omega
                subst hkl
                have hwe := want_end hlo'.out
                rw [hwe]
                have hne : ((j : Int) == (l.length : Int)) = false := by rw [beq_eq_false_iff_ne]; omega
                have hS3 := Lib.hid ((hl''.out ▸ hSx'.out : Stk wc B (i + 1) l F').still hw3)
                have hW3 := Lib.hid (hWx'.out.trans hw3 fun _ _ h => h)
                have hO3 := Lib.hid (row_same hOx'.out fun k hk hlt' => hw3.block k hlt' id)
                have AT := at_ok_stk hS3.out (by omega) hr0'.out
                rw [hr1'.out, hr2'.out] at AT
                clear hwe hw3
                go_wp2_with fail
                refine AT.mono ?_
                rintro e w4 ⟨rfl, hf4⟩
                have k2 : w4.cell? ⟨g, off + i * 2, none⟩ = some (.int .i64 a) := ((hW3.out.trans hf4 fun _ _ h => h).cell hg).trans hx0'.out
                have k3 : w4.cell? ⟨g, off + i * 2 + 1, none⟩ = some (.int .i64 b) := ((hW3.out.trans hf4 fun _ _ h => h).cell hg).trans hx1'.out
                have hf4' := Lib.hid hf4
                clear hf4 AT
                go_wp2_with fail
                go_roundw
                case rel => exact ⟨i + 1, l, F', mo, mc, rfl, by go_num, by omega, hS3.out.still hf4'.out, hD'.out, row_same hO3.out fun k hk hlt' => hf4'.out.block k hlt' id, hFx'.out, hW3.out.trans hf4'.out fun _ _ h => h⟩
                case measure => simp [intOf]; omega
          · have hlo' := Lib.hid hlo
            have hl'' := Lib.hid hl'
            have hj' := Lib.hid hj
            clear hlo hl' hj
            go_wp2_with fail
            go_loopw [8, 9] (fun wv kv w3 => ∃ (k : Nat), kv = .int .i64 k ∧ k ≤ l.length ∧ wv = .int .i64 (wantOf (look l a b) k l.length : Nat) ∧ Far (fun _ => False) wc w3) (fun _ kv _ => l.length - (intOf kv).toNat)
            case atStart => exact ⟨0, rfl, Nat.zero_le _, by cases h : look l a b <;> simp [wantOf], Far.refl _ wc⟩
            case round =>
              obtain ⟨k, rfl, hk, rfl, hw3⟩ := hrel
              by_cases hkl : k < l.length
              · have e1 : decide ((k : Int) < (l.length : Int)) = true := by rw [decide_eq_true_eq]; omega
                obtain ⟨rk, hrk⟩ : ∃ rk, l[k]? = some rk := ⟨l[k], by simp [hkl]⟩
                have hO3 := row_same hOx'.out fun k hk hlt' => hw3.block k hlt' id
                obtain ⟨mg, mc', hmo, _⟩ := hO3.form (by omega)
                simp only [Value.slice.injEq] at hmo
                obtain ⟨rfl, _, rfl⟩ := hmo
                have hsk : (spots l)[k]? = some (rk.mark, rk.place) := by simp [spots, hrk]
                have m0 : wr.cell? ⟨mg, k * 2, none⟩ = some (.int .i64 rk.mark) := by rw [hO3.cellAt _ (by omega)]; exact (fcells_get hsk).1
                have m1 : wr.cell? ⟨mg, k * 2 + 1, none⟩ = some (.int .i64 rk.place) := by rw [hO3.cellAt _ (by omega)]; exact (fcells_get hsk).2
                have hW3 := hWx'.out.trans hw3 fun _ _ h => h
                have k2 : wr.cell? ⟨g, off + i * 2, none⟩ = some (.int .i64 a) := (hW3.cell hg).trans hx0'.out
                have k3 : wr.cell? ⟨g, off + i * 2 + 1, none⟩ = some (.int .i64 b) := (hW3.cell hg).trans hx1'.out
                have hki : (k : Int) < (l.length : Int) := by omega
                have EQ := eq_arr2 rk.mark rk.place a b
                have hw3' := Lib.hid hw3
                have hrk' := Lib.hid hrk
                have hDk := hD'.out k rk hrk
                have hDk' := Lib.hid hDk
                clear hO3 hW3 hw3 hrk hsk hDk
                cases hb : (rk.mark == a && rk.place == b)
                · rw [hb] at EQ
                  have hmiss : look l a b ≠ some k := fun e => by
                    obtain ⟨r, hr, h1, h2⟩ := look_some e
                    rw [hrk'.out] at hr; cases hr
                    rw [h1, h2] at hb; simp at hb
                  have hwm := want_miss (n := l.length) hmiss
                  have hwm' := Lib.hid hwm
                  clear hmiss hwm hb
                  go_wp2_with fail
                  go_quiet (fail)
                  go_wp2_with fail
                  go_roundw
                  case rel => exact ⟨k + 1, by go_num, by omega, by rw [hwm'.out], hw3'.out.drewN _⟩
                  case measure => simp [intOf]; omega
                · rw [hb] at EQ
                  have hhit : look l a b = some k := by
                    simp at hb
                    rw [← hb.1, ← hb.2]; exact hDk'.out
                  have hhit' := Lib.hid hhit
                  clear hhit hb
                  go_wp2_with fail
                  go_quiet (fail)
                  go_wp2_with fail
                  go_roundw
                  case rel => exact ⟨k + 1, by go_num, by omega, by rw [hhit'.out, want_hit], hw3'.out.drewN _⟩
                  case measure => simp [intOf]; omega
              · have e1 : decide ((k : Int) < (l.length : Int)) = false := by rw [decide_eq_false_iff_not]; omega
                have hkl : k = l.length := by omega
                subst hkl
                rw [hlo'.out]
                simp only [wantOf]
                rw [hj'.out]
                have hS3 := Lib.hid ((hl''.out ▸ hSx'.out : Stk wc B (i + 1) (l ++ [⟨a, b, [], []⟩]) F').still hw3)
                have hW3 := Lib.hid (hWx'.out.trans hw3 fun _ _ h => h)
                have hO3 := Lib.hid (row_same hOx'.out fun k hk hlt' => hw3.block k hlt' id)
                have k2 : wr.cell? ⟨g, off + i * 2, none⟩ = some (.int .i64 a) := (hW3.out.cell hg).trans hx0'.out
                have k3 : wr.cell? ⟨g, off + i * 2 + 1, none⟩ = some (.int .i64 b) := (hW3.out.cell hg).trans hx1'.out
                obtain ⟨inf, hinf, hz0, hz1, hz2⟩ := info_parts info_arr2
                have A1 := Lib.hid (hO3.out.alloc (.cells #[.int .i64 a, .int .i64 b] 70))
                have A2 := Lib.hid (World.news_of_block (w := wr.alloc (.cells #[.int .i64 a, .int .i64 b] 70)) (cs := #[.int .i64 a, .int .i64 b]) (t := 70) (fr := (0, 0)) (heap_alloc_new wr _))
                have A3 : ∀ u ∈ [Value.int .i64 a, .int .i64 b], u.oneCell' = true := by simp [Value.oneCell']
                have A4 : l.length + 1 ≤ maxLen := by unfold maxLen; omega
                have A5 : (l.length + 1) * 16 ≤ 140737488355328 := by omega
                have A6 : W.heap.size ≤ (wr.alloc (.cells #[.int .i64 a, .int .i64 b] 70)).heap.size := by have := hW3.out.size; simp; omega
                have hgw3 : g < wr.heap.size := Nat.lt_of_lt_of_le hg hW3.out.size
                clear hw3
                go_wp2_with (at_builtin; refine wpList_append_lies _ rfl _ _ 69 rfl W.heap.size 70 inf _ 2 16 Try.underlying69 hinf hz0 hz1 hz2 rfl (by decide) (.slice mo l.length mc) l.length _ rfl A1.out ⟨wr.heap.size, 0, none⟩ 1 1 _ rfl rfl A2.out A3 (by decide) A4 A5 A6 _ rfl ?_; intro fg fcap w4 ho4 hg4 hat4 hl4)
                have hg4' := Lib.hid hg4
                have ho4' := Lib.hid ho4
                clear hg4 ho4
                have hR4 : Far (fun k => (Value.slice mo l.length mc).ownBlock = some k) wr w4 := ((Far.refl _ wr).alloc _).grown hg4'.out fun k _ e => e
                have hS4 := Lib.hid (hS3.out.kept hR4 fun k hk e => hS3.out.apart hO3.out (by decide) (by decide) (by decide) (by decide) k hk e)
                have hW4 := Lib.hid (hW3.out.trans hR4 fun k hk e => by have := (hO3.out.lt k e).1; omega)
                have hO4 : w4.ownsRow W.heap.size 70 2 (.slice (some ⟨fg, 0, none⟩) (l.length + 1) fcap) (l.length + 1) (fcells (spots (l ++ [⟨a, b, [], []⟩]))) := by
                  rw [show spots (l ++ [⟨a, b, [], []⟩]) = spots l ++ [(a, b)] by simp [spots], fcells_app]
                  exact ho4'.out
                have hO4' := Lib.hid hO4
                have AT := at_ok_stk (i := l.length) (r := ⟨a, b, [], []⟩) hS4.out (by omega) (by simp)
                clear hR4 hO4 hat4 A1 A2 A3 A4 A5 A6 k2 k3
                go_wp2_with fail
                refine AT.mono ?_
                rintro e w5 ⟨rfl, hf5⟩
                have k2 : w5.cell? ⟨g, off + i * 2, none⟩ = some (.int .i64 a) := ((hW4.out.trans hf5 fun _ _ h => h).cell hg).trans hx0'.out
                have k3 : w5.cell? ⟨g, off + i * 2 + 1, none⟩ = some (.int .i64 b) := ((hW4.out.trans hf5 fun _ _ h => h).cell hg).trans hx1'.out
                have hf5' := Lib.hid hf5
                clear hf5 AT
                go_wp2_with fail
                go_roundw
                case rel => exact ⟨i + 1, l ++ [⟨a, b, [], []⟩], F', some ⟨fg, 0, none⟩, fcap, by simp, by go_num, by omega, hS4.out.still hf5'.out, hD'.out.more hlo'.out, by rw [List.length_append]; exact row_same hO4'.out fun k hk hlt' => hf5'.out.block k hlt' id, hFx'.out, hW4.out.trans hf5'.out fun _ _ h => h⟩
                case measure => simp [intOf]; omega
      · have d2 : decide ((i : Int) < (n : Int)) = false := by rw [decide_eq_false_iff_not]; omega
        have hS' := Lib.hid hS
        have hW' := Lib.hid hW
        have LN := len_stk hS
        have AW := awake_any wr
        clear hS hD hO hF0 hW
        go_wp2_with (first | ((with_reducible refine LN.mono ?_); rintro e w' ⟨rfl, rfl⟩) | ((with_reducible refine AW.mono ?_); rintro e w' ⟨rfl, hfw⟩))
        go_ret
        exact ⟨rfl, (hW'.out.trans hfw fun _ _ h => h).below (Nat.le_refl _) fun _ _ h => h⟩
end
end Go.Proofs.Ythpkbeooplpinaa
