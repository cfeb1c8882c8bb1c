/-
  members: the states of both sets, rising.
-/
import Derived.Test.YtihlfphokgicbaaDoorMembMath
namespace Go.Proofs.YtihlfphokgicbaaDoor
open Go.RowKit
set_option linter.unusedVariables false
set_option linter.unusedSimpArgs false
theorem info_int : (Tryd.prog.info? 3).map (fun i => (i.zero, i.size, i.bytes)) = some (some (.int .i64 0), 1, 8) := by kernel_rfl
section
set_option maxHeartbeats 2000000
set_option maxRecDepth 100000
theorem members_any (u v u' v' : Nat) (w : World) (hu : u < 18446744073709551616) (hv : v < 18446744073709551616) (hu' : u' < 18446744073709551616) (hv' : v' < 18446744073709551616) (HT0 : Tab w) :
    Calls Tryd.prog 20 #[.agg #[.int .u64 (u : Int), .int .u64 (v : Int)], .agg #[.int .u64 (u' : Int), .int .u64 (v' : Int)]] w fun e w' => ∃ l so cap B, e = .returned (.slice so l.length cap) ∧ w.heap.size ≤ B ∧ w'.ownsRow B 3 1 (.slice so l.length cap) l.length (icells l) ∧ Upto (u &&& u') (v &&& v') 128 l ∧ Far (fun _ => False) w w' := by
  obtain ⟨h, hh⟩ : ∃ h, h = w.heap.size := ⟨_, rfl⟩
  obtain ⟨kO, hkO⟩ : ∃ k, k = h + 1 := ⟨_, rfl⟩
  obtain ⟨w1, hw1⟩ : ∃ w1, w1 = (w.alloc (.cells #[.int .u64 (u : Int), .int .u64 (v : Int)] 54)).alloc (.cells #[.int .u64 (u' : Int), .int .u64 (v' : Int)] 54) := ⟨_, rfl⟩
  have hS : Bk w1 h 54 #[.int .u64 (u : Int), .int .u64 (v : Int)] := hw1 ▸ (Bk.new hh).alloc _
  have hO : Bk w1 kO 54 #[.int .u64 (u' : Int), .int .u64 (v' : Int)] := hw1 ▸ Bk.new (by simp [hkO, hh])
  have hF : Far (fun _ => False) w w1 := hw1 ▸ ((Far.refl _ w).alloc _).alloc _
  have HT : Tab w1 := HT0.stays (hF.below (Nat.le_refl _) fun _ _ h => h)
  have hB1 : w.heap.size ≤ w1.heap.size := hF.size
  have s0 : w1.cell? ⟨h, 0, none⟩ = some (.int .u64 (u : Int)) := hS.cell 0
  have s1 : w1.cell? ⟨h, 1, none⟩ = some (.int .u64 (v : Int)) := hS.cell 1
  have X0 : bits .and .u64 (u : Int) (u' : Int) = ((u &&& u' : Nat) : Int) := bits_and_u64_nat u u' hu hu'
  have X1 : bits .and .u64 (v : Int) (v' : Int) = ((v &&& v' : Nat) : Int) := bits_and_u64_nat v v' hv hv'
  have hx0 : u &&& u' < 18446744073709551616 := Nat.lt_of_le_of_lt Nat.and_le_left hu
  have hx1 : v &&& v' < 18446744073709551616 := Nat.lt_of_le_of_lt Nat.and_le_left hv
  generalize u &&& u' = Y0 at *
  generalize v &&& v' = Y1 at *
  have hh' := Lib.hid hh
  have hkO' := Lib.hid hkO
  have hw1' := Lib.hid hw1
  have hO' := Lib.hid hO
  have hF' := Lib.hid hF
  have HT' := Lib.hid HT
  clear hh hkO hw1 hO hF HT HT0 hS
  have i0 : ∀ w, (Instr.index 54 (.agg #[.int .u64 (u : Int), .int .u64 (v : Int)]) (.int .i64 0)).run Tryd.prog w = .ok (.int .u64 (u : Int)) w := fun _ => by kernel_rfl
  have i1 : ∀ w, (Instr.index 54 (.agg #[.int .u64 (u : Int), .int .u64 (v : Int)]) (.int .i64 1)).run Tryd.prog w = .ok (.int .u64 (v : Int)) w := fun _ => by kernel_rfl
  go_enter Tryd.func20, Tryd.ntmps20
  go_upto_region 2 with fail
  rw [← hh'.out, ← hkO'.out, ← hw1'.out]
  go_wp2_with fail
  clear s0 s1
  go_loopw [5, 9] (fun lv iv wr => ∃ (k : Nat) (l : List Nat) (so : Option Addr) (cap : Nat), lv = .slice so l.length cap ∧ iv = .int .i64 k ∧ k ≤ 2 ∧ Upto Y0 Y1 (64 * k) l ∧ wr.ownsRow w1.heap.size 3 1 (.slice so l.length cap) l.length (icells l) ∧ Far (fun _ => False) w1 wr) (fun _ iv _ => 2 - (intOf iv).toNat)
  case atStart => exact ⟨0, [], none, 0, rfl, rfl, by omega, upto_nil _ _, World.ownsRow_nil _ _ _ _, Far.refl _ _⟩
  case round =>
    obtain ⟨k, l, so, cap, rfl, rfl, hk, hU, hOw, hfw⟩ := hrel
    rcases (show k = 0 ∨ k = 1 ∨ k = 2 by omega) with rfl | rfl | rfl
    · rw [show ((0 : Nat) : Int) = (0 : Int) from rfl]
      have hR := rest_first Y0 Y1 0 (by omega) hx0 hx1
      rw [if_pos rfl] at hR
      have hOr := hO'.out.far' hfw id
      have o0 : wr.cell? ⟨kO, 0, none⟩ = some (.int .u64 (u' : Int)) := hOr.cell 0
      have hU' := Lib.hid hU
      have hOw' := Lib.hid hOw
      have hfw' := Lib.hid hfw
      have hR' := Lib.hid hR
      clear hU hOw hfw hR hOr
      go_wp2_with fail
      go_loopw [5, 7] (fun lv xv wr => ∃ (b x : Nat) (l : List Nat) (so : Option Addr) (cap : Nat), lv = .slice so l.length cap ∧ xv = .int .u64 x ∧ Upto Y0 Y1 b l ∧ Rest Y0 Y1 0 b x ∧ wr.ownsRow w1.heap.size 3 1 (.slice so l.length cap) l.length (icells l) ∧ Far (fun _ => False) w1 wr) (fun _ xv _ => (intOf xv).toNat)
      case atStart => exact ⟨64 * 0, Y0, l, so, cap, rfl, rfl, hU'.out, hR'.out, hOw'.out, hfw'.out⟩
      case round =>
        clear hU' hOw' hfw' hR' o0
        obtain ⟨b, x, l, so, cap, rfl, rfl, hU, hR, hOw, hfw⟩ := hrel
        by_cases hx : x = 0
        · subst hx
          have hU' := Lib.hid (rest_last hU hR)
          have hOw' := Lib.hid hOw
          have hfw' := Lib.hid hfw
          clear hU hR hOw hfw
          go_wp2_with fail
          go_roundw
          case rel => exact ⟨1, l, so, cap, by rfl, by go_num, by omega, hU'.out, hOw'.out, hfw'.out⟩
          case measure => simp [intOf]
        · have hne : ((x : Int) != 0) = true := by simp; omega
          have hne2 : ((x : Int) == 0) = false := by simp; omega
          have hxl := hR.2.1
          have hll : l.length ≤ 64 := by have := hU.2.2; have := hR.1.2; omega
          obtain ⟨b2, hU2, hR2⟩ := rest_next hU hR hx
          have hX : bits .and .u64 (x : Int) ((x : Int) - 1) = ((x &&& (x - 1) : Nat) : Int) := by
            rw [show ((x : Int) - 1) = ((x - 1 : Nat) : Int) by omega, bits_and_u64_nat _ _ hxl (by omega)]
          have hxd : x &&& (x - 1) < x := Nat.lt_of_le_of_lt Nat.and_le_right (by omega)
          have tz := fun w' (hb : Far (fun _ => False) w1 w') => tz_any x w' hxl hx (HT'.out.stays (hb.below (Nat.le_refl _) fun _ _ h => h))
          have hc64 := (low_facts x hxl hx).1
          have TZ := Lib.hid tz
          have hU' := Lib.hid hU2
          have hR' := Lib.hid hR2
          have hOw' := Lib.hid hOw
          have hfw' := Lib.hid hfw
          clear tz hU2 hR2 hU hR hOw hfw
          generalize Lib.ctz 64 x = q at *
          generalize x &&& (x - 1) = x' at *
          go_wp2_with fail
          refine (TZ.out _ hfw'.out).mono ?_
          rintro e w2 ⟨rfl, rfl⟩
          obtain ⟨inf, hinf, hz0, hz1, hz2⟩ := info_parts info_int
          have A1 := Lib.hid (hOw'.out.alloc (.cells #[.int .i64 (q : Int)] 3))
          have A2 := Lib.hid (World.news_of_block (w := wr.alloc (.cells #[.int .i64 (q : Int)] 3)) (cs := #[.int .i64 (q : Int)]) (t := 3) (fr := (0, 0)) (heap_alloc_new wr _))
          have A3 : ∀ u ∈ [Value.int .i64 (q : Int)], u.oneCell' = true := by simp [Value.oneCell']
          have A4 : l.length + 1 ≤ maxLen := by unfold maxLen; omega
          have A5 : (l.length + 1) * 8 ≤ 140737488355328 := by omega
          have A6 : w1.heap.size ≤ (wr.alloc (.cells #[.int .i64 (q : Int)] 3)).heap.size := by have := hfw'.out.size; simp; omega
          go_wp2_with (at_builtin; refine wpList_append_lies _ rfl _ _ 22 rfl w1.heap.size 3 inf _ 1 8 Tryd.underlying22 hinf hz0 hz1 hz2 rfl (by decide) (.slice so l.length cap) l.length _ rfl A1.out ⟨wr.heap.size, 0, none⟩ 1 1 _ rfl rfl A2.out A3 (by decide) A4 A5 A6 _ rfl ?_; intro fg fcap w4 ho4 hg4 hat4 hl4)
          have hR4 : Far (fun k => (Value.slice so l.length cap).ownBlock = some k) wr w4 := ((Far.refl _ wr).alloc _).grown hg4 fun k _ e => e
          have hW4 := Lib.hid (hfw'.out.trans hR4 fun k hk e => by have := (hOw'.out.lt k e).1; omega)
          have ho4' := Lib.hid ho4
          clear hR4 ho4 hg4 hat4 A1 A2 A3 A4 A5 A6
          go_wp2_with fail
          go_roundw
          case rel => exact ⟨b2, x', l ++ [64 * 0 + q], some ⟨fg, 0, none⟩, fcap, by simp, rfl, hU'.out, hR'.out, by rw [List.length_append, icells_app, show ((64 * 0 + q : Nat) : Int) = (q : Int) by omega]; exact ho4'.out, hW4.out⟩
          case measure => simp [intOf]; omega
    · rw [show ((1 : Nat) : Int) = (1 : Int) from rfl]
      have hR := rest_first Y0 Y1 1 (by omega) hx0 hx1
      rw [if_neg (by decide)] at hR
      have hOr := hO'.out.far' hfw id
      have o0 : wr.cell? ⟨kO, 1, none⟩ = some (.int .u64 (v' : Int)) := hOr.cell 1
      have hU' := Lib.hid hU
      have hOw' := Lib.hid hOw
      have hfw' := Lib.hid hfw
      have hR' := Lib.hid hR
      clear hU hOw hfw hR hOr
      go_wp2_with fail
      go_loopw [5, 7] (fun lv xv wr => ∃ (b x : Nat) (l : List Nat) (so : Option Addr) (cap : Nat), lv = .slice so l.length cap ∧ xv = .int .u64 x ∧ Upto Y0 Y1 b l ∧ Rest Y0 Y1 1 b x ∧ wr.ownsRow w1.heap.size 3 1 (.slice so l.length cap) l.length (icells l) ∧ Far (fun _ => False) w1 wr) (fun _ xv _ => (intOf xv).toNat)
      case atStart => exact ⟨64 * 1, Y1, l, so, cap, rfl, rfl, hU'.out, hR'.out, hOw'.out, hfw'.out⟩
      case round =>
        clear hU' hOw' hfw' hR' o0
        obtain ⟨b, x, l, so, cap, rfl, rfl, hU, hR, hOw, hfw⟩ := hrel
        by_cases hx : x = 0
        · subst hx
          have hU' := Lib.hid (rest_last hU hR)
          have hOw' := Lib.hid hOw
          have hfw' := Lib.hid hfw
          clear hU hR hOw hfw
          go_wp2_with fail
          go_roundw
          case rel => exact ⟨2, l, so, cap, by rfl, by go_num, by omega, hU'.out, hOw'.out, hfw'.out⟩
          case measure => simp [intOf]
        · have hne : ((x : Int) != 0) = true := by simp; omega
          have hne2 : ((x : Int) == 0) = false := by simp; omega
          have hxl := hR.2.1
          have hll : l.length ≤ 128 := by have := hU.2.2; have := hR.1.2; omega
          obtain ⟨b2, hU2, hR2⟩ := rest_next hU hR hx
          have hX : bits .and .u64 (x : Int) ((x : Int) - 1) = ((x &&& (x - 1) : Nat) : Int) := by
            rw [show ((x : Int) - 1) = ((x - 1 : Nat) : Int) by omega, bits_and_u64_nat _ _ hxl (by omega)]
          have hxd : x &&& (x - 1) < x := Nat.lt_of_le_of_lt Nat.and_le_right (by omega)
          have tz := fun w' (hb : Far (fun _ => False) w1 w') => tz_any x w' hxl hx (HT'.out.stays (hb.below (Nat.le_refl _) fun _ _ h => h))
          have hc64 := (low_facts x hxl hx).1
          have TZ := Lib.hid tz
          have hU' := Lib.hid hU2
          have hR' := Lib.hid hR2
          have hOw' := Lib.hid hOw
          have hfw' := Lib.hid hfw
          clear tz hU2 hR2 hU hR hOw hfw
          generalize Lib.ctz 64 x = q at *
          generalize x &&& (x - 1) = x' at *
          go_wp2_with fail
          refine (TZ.out _ hfw'.out).mono ?_
          rintro e w2 ⟨rfl, rfl⟩
          obtain ⟨inf, hinf, hz0, hz1, hz2⟩ := info_parts info_int
          have A1 := Lib.hid (hOw'.out.alloc (.cells #[.int .i64 (64 + (q : Int))] 3))
          have A2 := Lib.hid (World.news_of_block (w := wr.alloc (.cells #[.int .i64 (64 + (q : Int))] 3)) (cs := #[.int .i64 (64 + (q : Int))]) (t := 3) (fr := (0, 0)) (heap_alloc_new wr _))
          have A3 : ∀ u ∈ [Value.int .i64 (64 + (q : Int))], u.oneCell' = true := by simp [Value.oneCell']
          have A4 : l.length + 1 ≤ maxLen := by unfold maxLen; omega
          have A5 : (l.length + 1) * 8 ≤ 140737488355328 := by omega
          have A6 : w1.heap.size ≤ (wr.alloc (.cells #[.int .i64 (64 + (q : Int))] 3)).heap.size := by have := hfw'.out.size; simp; omega
          go_wp2_with (at_builtin; refine wpList_append_lies _ rfl _ _ 22 rfl w1.heap.size 3 inf _ 1 8 Tryd.underlying22 hinf hz0 hz1 hz2 rfl (by decide) (.slice so l.length cap) l.length _ rfl A1.out ⟨wr.heap.size, 0, none⟩ 1 1 _ rfl rfl A2.out A3 (by decide) A4 A5 A6 _ rfl ?_; intro fg fcap w4 ho4 hg4 hat4 hl4)
          have hR4 : Far (fun k => (Value.slice so l.length cap).ownBlock = some k) wr w4 := ((Far.refl _ wr).alloc _).grown hg4 fun k _ e => e
          have hW4 := Lib.hid (hfw'.out.trans hR4 fun k hk e => by have := (hOw'.out.lt k e).1; omega)
          have ho4' := Lib.hid ho4
          clear hR4 ho4 hg4 hat4 A1 A2 A3 A4 A5 A6
          go_wp2_with fail
          go_roundw
          case rel => exact ⟨b2, x', l ++ [64 * 1 + q], some ⟨fg, 0, none⟩, fcap, by simp, rfl, hU'.out, hR'.out, by rw [List.length_append, icells_app, show ((64 * 1 + q : Nat) : Int) = 64 + (q : Int) by omega]; exact ho4'.out, hW4.out⟩
          case measure => simp [intOf]; omega
    · have hU' := Lib.hid hU
      have hOw' := Lib.hid hOw
      have hfw' := Lib.hid hfw
      clear hU hOw hfw
      go_wp2_with fail
      go_ret
      exact ⟨l, so, cap, w1.heap.size, rfl, hB1, hOw'.out, hU'.out, hF'.out.then hfw'.out⟩
end
end Go.Proofs.YtihlfphokgicbaaDoor
