/-
  The document's Words, of longer texts.
-/
import Derived.Test.YtjmgheogpglpnaaDoorRWords30
namespace Go.Proofs.YtjmgheogpglpnaaDoor
open Go.RowKit
set_option linter.unusedVariables false
set_option linter.unusedSimpArgs false
section
set_option maxHeartbeats 2000000
set_option maxRecDepth 100000
theorem rwords_big (l : Tx) (w : World) (hs : l.length ≤ 1099511627776) : Calls Tryd.prog 21 #[st l] w fun e w' => ∃ v, e = .returned v ∧ w'.ownsRow w.heap.size 9 1 v (splitW l).length ((splitW l).map st) ∧ Far (fun _ => False) w w' := by
  obtain ⟨s, hS⟩ : ∃ s : ByteArray, s = ⟨l.toArray⟩ := ⟨_, rfl⟩
  have hsz : s.size = l.length := by rw [hS]; simp [ByteArray.size]
  have hst : st l = .string s := by unfold st; rw [hS]
  have hget : ∀ i (h : i < s.size), l[i]? = some s[i] := fun i h => by
    subst hS
    rw [List.getElem?_eq_getElem (by omega)]
    rfl
  have hext : ∀ f i, f ≤ i → i ≤ l.length → s.extract f i = ⟨((l.drop f).take (i - f)).toArray⟩ := fun f i h1 h2 => by
    rw [hS]; apply ByteArray.ext; simp
  rw [hst]
  have hsz' := Lib.hid hsz
  have hget' := Lib.hid hget
  have hext' := Lib.hid hext
  have hss : s.size ≤ 1099511627776 := by omega
  clear hst hS hsz hget hext
  go_enter Tryd.func21, Tryd.ntmps21
  go_wp2_with fail
  go_loopw [3, 4, 5] (fun ov fv iv wr => ∃ (i f : Nat) (acc : List Tx) (so : Option Addr) (cap : Nat), ov = .slice so acc.length cap ∧ fv = .int .i64 f ∧ iv = .int .i64 i ∧ WP l i f acc ∧ wr.ownsRow w.heap.size 9 1 (.slice so acc.length cap) acc.length (acc.map st) ∧ Far (fun _ => False) w wr) (fun _ _ iv _ => s.size + 1 - (intOf iv).toNat)
  case atStart => exact ⟨0, 0, [], none, 0, rfl, rfl, rfl, wp_start l, World.ownsRow_nil _ _ _ _, Far.refl _ _⟩
  case round =>
    obtain ⟨i, f, acc, so, cap, rfl, rfl, rfl, hW, hO, hfw⟩ := hrel
    have hal := wp_le hW
    rw [← hsz'.out] at hal
    have hO' := Lib.hid hO
    have hfw' := Lib.hid hfw
    have hW' := Lib.hid hW
    clear hO hfw hW
    by_cases hle : i ≤ s.size
    · have e1 : decide ((i : Int) ≤ (s.size : Int)) = true := by rw [decide_eq_true_eq]; omega
      have hfi := wp_from hW'.out (by have := hsz'.out; omega)
      have c1 : (0 : Int) ≤ ↑f := by omega
      have c2 : (↑f : Int) ≤ ↑i := by omega
      have c3 : (↑i : Int) ≤ ↑s.size := by omega
      have hx := Lib.hid (hext'.out f i hfi (by have := hsz'.out; omega))
      obtain ⟨inf, z, hinf, hz0, hz1, hz2, hz3⟩ := info3 info_str
      have A1 := Lib.hid (hO'.out.alloc (.cells #[.string (s.extract f i)] 9))
      have A2 := Lib.hid (World.news_of_block (w := wr.alloc (.cells #[.string (s.extract f i)] 9)) (cs := #[.string (s.extract f i)]) (t := 9) (fr := (0, 0)) (heap_alloc_new wr _))
      have A3 : ∀ u ∈ [Value.string (s.extract f i)], u.oneCell' = true := by simp [Value.oneCell']
      have A4 : acc.length + 1 ≤ maxLen := by unfold maxLen; omega
      have A5 : (acc.length + 1) * 16 ≤ 140737488355328 := by omega
      have A6 : w.heap.size ≤ (wr.alloc (.cells #[.string (s.extract f i)] 9)).heap.size := by have := hfw'.out.size; simp; omega
      by_cases hlt : i < s.size
      · have e2 : ((i : Int) == (s.size : Int)) = false := by simp; omega
        have e2b : ¬ ((i : Int) = (s.size : Int)) := by omega
        have e3 : (i : Int) < (s.size : Int) := by omega
        have hg := Lib.hid (hget'.out i hlt)
        by_cases hc : s[i] = 32
        · have hN := Lib.hid (wp_cut hW'.out (by have := hsz'.out; omega) (by rw [hg.out, hc]))
          have e4 : ((s[i].toNat : Int) == 32) = true := by rw [hc]; rfl
          have e4b : (s[i].toNat : Int) = 32 := by rw [hc]; rfl
          clear hc
          go_wp2_with (at_builtin; go_loud (refine wpList_append_lies _ rfl _ _ 24 rfl w.heap.size 9 inf _ 1 16 Tryd.underlying24 hinf hz0 hz1 hz2 hz3 (by decide) (.slice so acc.length cap) acc.length _ rfl A1.out ⟨wr.heap.size, 0, none⟩ 1 1 _ rfl rfl A2.out A3 (by decide) A4 A5 A6 _ rfl ?_; intro fg fcap w4 ho4 hg4 hat4 hl4))
          have hR4 : Far (fun k => (Value.slice so acc.length cap).ownBlock = some k) wr w4 := ((Far.refl _ wr).alloc _).grown hg4 fun k _ e => e
          have hW4 := Lib.hid (hfw'.out.trans hR4 fun k hk e => by have := (hO'.out.lt k e).1; omega)
          have ho4' := Lib.hid ho4
          clear hR4 ho4 hg4 hat4 A1 A2 A3 A4 A5 A6
          go_wp2_with fail
          go_roundw
          case rel => exact ⟨i + 1, i + 1, acc ++ [(l.drop f).take (i - f)], some ⟨fg, 0, none⟩, fcap, by simp, by go_num, by go_num, hN.out, by rw [List.length_append, List.map_append]; have := ho4'.out; rw [hx.out] at this; exact this, hW4.out⟩
          case measure => simp [intOf]; omega
        · have hcn : ¬ s[i].toNat = 32 := fun e => hc (UInt8.toNat_inj.1 e)
          have hN := Lib.hid (wp_skip hW'.out (by have := hsz'.out; omega) (by rw [hg.out]; intro e; exact hc (Option.some.inj e)))
          have e4 : ((s[i].toNat : Int) == 32) = false := by simp; omega
          have e4b : ¬ (s[i].toNat : Int) = 32 := by omega
          clear hc hcn A1 A2 A3 A4 A5 A6
          go_wp2_with fail
          go_roundw
          case rel => exact ⟨i + 1, f, acc, so, cap, rfl, rfl, by go_num, hN.out, hO'.out, hfw'.out⟩
          case measure => simp [intOf]; omega
      · have hi : i = s.size := by omega
        have e2 : ((i : Int) == (s.size : Int)) = true := by simp; omega
        have hN := Lib.hid (show WP l (i + 1) (i + 1) (acc ++ [(l.drop f).take (i - f)]) by
          have := hsz'.out
          have e : i = l.length := by omega
          subst e
          exact wp_end hW'.out)
        clear hi
        go_wp2_with (at_builtin; go_loud (refine wpList_append_lies _ rfl _ _ 24 rfl w.heap.size 9 inf _ 1 16 Tryd.underlying24 hinf hz0 hz1 hz2 hz3 (by decide) (.slice so acc.length cap) acc.length _ rfl A1.out ⟨wr.heap.size, 0, none⟩ 1 1 _ rfl rfl A2.out A3 (by decide) A4 A5 A6 _ rfl ?_; intro fg fcap w4 ho4 hg4 hat4 hl4))
        have hR4 : Far (fun k => (Value.slice so acc.length cap).ownBlock = some k) wr w4 := ((Far.refl _ wr).alloc _).grown hg4 fun k _ e => e
        have hW4 := Lib.hid (hfw'.out.trans hR4 fun k hk e => by have := (hO'.out.lt k e).1; omega)
        have ho4' := Lib.hid ho4
        clear hR4 ho4 hg4 hat4 A1 A2 A3 A4 A5 A6
        go_wp2_with fail
        go_roundw
        case rel => exact ⟨i + 1, i + 1, acc ++ [(l.drop f).take (i - f)], some ⟨fg, 0, none⟩, fcap, by simp, by go_num, by go_num, hN.out, by rw [List.length_append, List.map_append]; have := ho4'.out; rw [hx.out] at this; exact this, hW4.out⟩
        case measure => simp [intOf]; omega
    · have e1 : decide ((i : Int) ≤ (s.size : Int)) = false := by rw [decide_eq_false_iff_not]; omega
      have hD := Lib.hid (wp_done hW'.out (by have := hsz'.out; omega))
      go_wp2_with fail
      go_ret
      exact ⟨_, rfl, by rw [hD.out]; exact hO'.out, hfw'.out⟩
end
end Go.Proofs.YtjmgheogpglpnaaDoor
