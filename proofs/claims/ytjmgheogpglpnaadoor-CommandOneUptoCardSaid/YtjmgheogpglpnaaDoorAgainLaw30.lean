/-
  The law CommandAgain.
-/
import Derived.Test.YtjmgheogpglpnaaDoorCheck30
import Derived.Test.YtjmgheogpglpnaaDoorHead30
namespace Go.Proofs.YtjmgheogpglpnaaDoor
open Go.RowKit
set_option linter.unusedVariables false
set_option linter.unusedSimpArgs false
theorem own_cmg {w : World} {B : Nat} {V : Value} {l : Tx} {d : Cm} (h : OwnC w B V d) (hd : parseF l = .inr d) (hl : l.length ≤ 140737488351232) : CmG w V (upC d) := by
  have h1 := parseF_small l
  have h2 := parseF_nums l
  rw [hd] at h1 h2
  have e : cmdR (.inr d) = d := rfl
  rw [e] at h1 h2
  refine ⟨h.cmi (by unfold maxLen; omega) (by unfold maxLen; omega), h.cmw, ?_, ?_, by rw [write_again hd]; exact hl⟩
  · have e1 : (upC d).names.length = d.names.length := rfl
    have e2 : (upC d).nums.length = d.nums.length := by simp [upC]
    rw [e1, e2]; omega
  · intro n hn
    obtain ⟨m, hm, rfl⟩ := List.mem_map.1 hn
    have := h2 m hm
    omega
theorem check_again {l : Tx} {d : Cm} (hd : parseF l = .inr d) (hl : ¬ 2064 < l.length) : checkF (upC d) = 0 := by
  unfold checkF
  rw [write_again hd, hd]
  dsimp only
  rw [if_pos rfl, if_neg hl]
theorem parseL_cases (l : Tx) : (parseL l = .inl 3 ∧ 2064 < l.length) ∨ (¬ 2064 < l.length ∧ (parseL l = .inl 400 ∨ parseL l = .inl 401 ∨ ∃ d, parseL l = .inr d ∧ parseF l = .inr d)) := by
  unfold parseL
  by_cases h : 2064 < l.length
  · rw [if_pos h]; exact .inl ⟨rfl, h⟩
  · rw [if_neg h]
    refine .inr ⟨h, ?_⟩
    cases hp : parseF l with
    | inl k => rcases parse_code hp with rfl | rfl <;> simp
    | inr d => exact .inr (.inr ⟨d, rfl, rfl⟩)
section
set_option maxHeartbeats 4000000
set_option maxRecDepth 100000
theorem again_bad (l : Tx) (w : World) (hs : l.length ≤ 140737488351232) (hL : Lw w) (k : Nat) (hp : parseL l = .inl k) (hk : (k = 3 ∧ 2064 < l.length) ∨ k = 400 ∨ k = 401) :
    Calls Tryd.prog 8 #[st l] w fun e w' => e = .returned (.bool true) ∧ Far (fun _ => False) w w' := by
  have PA := parse_all l w hs hL
  rw [hp] at PA
  unfold PPost at PA
  obtain ⟨s, hS⟩ : ∃ s : ByteArray, s = ⟨l.toArray⟩ := ⟨_, rfl⟩
  have hst : st l = .string s := by unfold st; rw [hS]
  have hsz : s.size = l.length := by rw [hS]; simp [ByteArray.size]
  rw [hst] at PA ⊢
  rw [← hsz] at hk
  clear hS hst hL hs hp hsz
  rcases hk with ⟨rfl, hl⟩ | rfl | rfl
  · have q5 : decide ((2064 : Int) < (s.size : Int)) = true := by rw [decide_eq_true_eq]; omega
    have hl' := Lib.hid hl
    clear hl
    go_enter Tryd.func8, Tryd.ntmps8
    go_wp2_with (first
      | (go_at_call 10; refine PA.mono ?_; rintro e w1 ⟨hf1, V, rfl, hV⟩; obtain ⟨no, nc, mo, mc, rfl, ho1, ho2⟩ := hV.form; have hf1' := Lib.hid hf1; clear hf1 ho1 ho2 hV)
      | (go_at_call 12; refine (head_any _).mono ?_; rintro e w5 ⟨rfl, hf5⟩; have hf5' := Lib.hid hf5; clear hf5))
    go_ret
    exact ⟨rfl, (hf1'.out.alloc _).then hf5'.out⟩
  · go_enter Tryd.func8, Tryd.ntmps8
    go_wp2_with (first
      | (go_at_call 10; refine PA.mono ?_; rintro e w1 ⟨hf1, V, rfl, hV⟩; obtain ⟨no, nc, mo, mc, rfl, ho1, ho2⟩ := hV.form; have hf1' := Lib.hid hf1; clear hf1 ho1 ho2 hV)
      | (go_at_call 12; refine (head_any _).mono ?_; rintro e w5 ⟨rfl, hf5⟩; have hf5' := Lib.hid hf5; clear hf5))
    go_ret
    exact ⟨rfl, (hf1'.out.alloc _).then hf5'.out⟩
  · go_enter Tryd.func8, Tryd.ntmps8
    go_wp2_with (first
      | (go_at_call 10; refine PA.mono ?_; rintro e w1 ⟨hf1, V, rfl, hV⟩; obtain ⟨no, nc, mo, mc, rfl, ho1, ho2⟩ := hV.form; have hf1' := Lib.hid hf1; clear hf1 ho1 ho2 hV)
      | (go_at_call 12; refine (head_any _).mono ?_; rintro e w5 ⟨rfl, hf5⟩; have hf5' := Lib.hid hf5; clear hf5))
    go_ret
    exact ⟨rfl, (hf1'.out.alloc _).then hf5'.out⟩
theorem again_ok (l : Tx) (w : World) (hs : l.length ≤ 140737488351232) (hL : Lw w) (d : Cm) (hp : parseL l = .inr d) (hd : parseF l = .inr d) (hl : ¬ 2064 < l.length) :
    Calls Tryd.prog 8 #[st l] w fun e w' => e = .returned (.bool true) ∧ Far (fun _ => False) w w' := by
  have PA := parse_all l w hs hL
  rw [hp] at PA
  unfold PPost at PA
  dsimp only [codeR, cmdR] at PA
  have OG := Lib.hid (fun (W : World) (B : Nat) (V : Value) (h : OwnC W B V d) => own_cmg h hd hs)
  have c0 := check_again hd hl
  have w0 := write_again hd
  have PR := Lib.hid (fun (V : Value) (W : World) (h : CmG W V (upC d)) (hf : Far (fun _ => False) w W) => print_any V (upC d) W h (hL.far hf fun _ _ h => h))
  have CH := Lib.hid (fun (V : Value) (W : World) (h : CmG W V (upC d)) (hf : Far (fun _ => False) w W) => check_any V (upC d) W h (hL.far hf fun _ _ h => h))
  rw [c0, w0, if_pos rfl] at PR
  rw [c0] at CH
  obtain ⟨s, hS⟩ : ∃ s : ByteArray, s = ⟨l.toArray⟩ := ⟨_, rfl⟩
  have hst : st l = .string s := by unfold st; rw [hS]
  rw [hst] at PA PR ⊢
  have q1 : (s.toList == s.toList) = true := by simp
  have hL' := Lib.hid hL
  clear hS hst hL hs hp hd hl c0 w0
  go_enter Tryd.func8, Tryd.ntmps8
  go_upto_region 2 with (go_at_call 10; refine PA.mono ?_; rintro e w1 ⟨hf1, V, rfl, hV⟩; have hV1 := Lib.hid hV; obtain ⟨no, nc, mo, mc, rfl, ho1, ho2⟩ := hV.form; have hf1' := Lib.hid hf1; clear hf1 ho1 ho2 hV)
  obtain ⟨k3, hk3⟩ : ∃ k, k = w1.heap.size := ⟨_, rfl⟩
  obtain ⟨w2, hw2⟩ : ∃ W, W = w1.alloc (.cells #[.int .i64 (d.v : Int), .int .i64 (d.how : Int), .slice no d.names.length nc, .slice mo d.nums.length mc, .string ⟨d.text.toArray⟩] 27) := ⟨_, rfl⟩
  rw [← hk3, ← hw2]
  have hF2 : Far (fun _ => False) w1 w2 := hw2 ▸ (Far.refl _ w1).alloc _
  have C2 := Lib.hid (hw2 ▸ Bk.new hk3 : Bk w2 k3 27 #[.int .i64 (d.v : Int), .int .i64 (d.how : Int), .slice no d.names.length nc, .slice mo d.nums.length mc, .string ⟨d.text.toArray⟩])
  have hf2' := Lib.hid (hf1'.out.then hF2)
  have V2 := Lib.hid (OG.out _ _ _ (hV1.out.far hF2 fun _ _ h => h))
  clear hk3 hw2 hF2 PA
  go_wp2_with (first
    | (go_at_call 12; refine (head_any _).mono ?_; rintro e w3 ⟨rfl, hf⟩; have hf3' := Lib.hid (hf2'.out.then hf); have V3 := Lib.hid (V2.out.move hf); have C3 := Lib.hid (C2.out.far' hf id); have a0 : w3.cell? ⟨k3, 0, none⟩ = some (.int .i64 (d.v : Int)) := C3.out.cell 0; have a1 : w3.cell? ⟨k3, 1, none⟩ = some (.int .i64 (d.how : Int)) := C3.out.cell 1; have a2 : w3.cell? ⟨k3, 2, none⟩ = some (.slice no d.names.length nc) := C3.out.cell 2; have a3 : w3.cell? ⟨k3, 3, none⟩ = some (.slice mo d.nums.length mc) := C3.out.cell 3; have a4 : w3.cell? ⟨k3, 4, none⟩ = some (.string ⟨d.text.toArray⟩) := C3.out.cell 4; clear hf)
    | (go_at_call 14; refine (PR.out _ _ V3.out hf3'.out).mono ?_; rintro e w4 ⟨rfl, hf⟩; have hf4' := Lib.hid (hf3'.out.then hf); have V4 := Lib.hid (V3.out.move hf); have C4 := Lib.hid (C3.out.far' hf id); have b0 : w4.cell? ⟨k3, 0, none⟩ = some (.int .i64 (d.v : Int)) := C4.out.cell 0; have b1 : w4.cell? ⟨k3, 1, none⟩ = some (.int .i64 (d.how : Int)) := C4.out.cell 1; have b2 : w4.cell? ⟨k3, 2, none⟩ = some (.slice no d.names.length nc) := C4.out.cell 2; have b3 : w4.cell? ⟨k3, 3, none⟩ = some (.slice mo d.nums.length mc) := C4.out.cell 3; have b4 : w4.cell? ⟨k3, 4, none⟩ = some (.string ⟨d.text.toArray⟩) := C4.out.cell 4; clear hf)
    | (go_at_call 15; refine (CH.out _ _ V4.out hf4'.out).mono ?_; rintro e w5 ⟨rfl, hf⟩; have hf5' := Lib.hid (hf4'.out.then hf); clear hf))
  go_ret
  exact ⟨rfl, hf5'.out⟩
theorem again_law (l : Tx) (w : World) (hs : l.length ≤ 140737488351232) (hL : Lw w) :
    Calls Tryd.prog 8 #[st l] w fun e w' => e = .returned (.bool true) ∧ Far (fun _ => False) w w' := by
  rcases parseL_cases l with ⟨hp, hl⟩ | ⟨hl, hp | hp | ⟨d, hp, hd⟩⟩
  · exact again_bad l w hs hL 3 hp (.inl ⟨rfl, hl⟩)
  · exact again_bad l w hs hL 400 hp (.inr (.inl rfl))
  · exact again_bad l w hs hL 401 hp (.inr (.inr rfl))
  · exact again_ok l w hs hL d hp hd hl
end
end Go.Proofs.YtjmgheogpglpnaaDoor
