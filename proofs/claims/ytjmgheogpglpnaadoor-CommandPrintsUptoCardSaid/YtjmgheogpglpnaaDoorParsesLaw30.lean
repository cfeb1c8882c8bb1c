/-
  The law CommandParses.
-/
import Derived.Test.YtjmgheogpglpnaaDoorRParse30
import Derived.Test.YtjmgheogpglpnaaDoorRSame30
import Derived.Test.YtjmgheogpglpnaaDoorReadP30
import Derived.Test.YtjmgheogpglpnaaDoorReadQ30
import Derived.Test.YtjmgheogpglpnaaDoorReadT30
import Derived.Test.YtjmgheogpglpnaaDoorHead30
namespace Go.Proofs.YtjmgheogpglpnaaDoor
open Go.RowKit
set_option linter.unusedVariables false
set_option linter.unusedSimpArgs false
theorem reads_all (v : Nat) (h0 : v ≠ 0) (h : v ≤ 10) : ReadsV Lp v := by
  have : v = 1 ∨ v = 2 ∨ v = 3 ∨ v = 4 ∨ v = 5 ∨ v = 6 ∨ v = 7 ∨ v = 8 ∨ v = 9 ∨ v = 10 := by omega
  rcases this with rfl | rfl | rfl | rfl | rfl | rfl | rfl | rfl | rfl | rfl
  · exact reads1 _
  · exact reads2 _
  · exact reads3 _
  · exact reads4 _
  · exact reads5 _
  · exact reads6 _
  · exact reads7
  · exact reads8 _
  · exact reads9 _
  · exact reads10 _
theorem Lw.size {w : World} (h : Lw w) : 4 ≤ w.heap.size := by
  obtain ⟨_, _, e3, h3, _⟩ := h
  exact World.block_lt_of_cell? w _ h3
theorem parse_all (l : Tx) (w : World) (hs : l.length ≤ 140737488351232) (hL : Lw w) : Calls Tryd.prog 10 #[st l] w (PPost w (parseL l)) :=
  parse_any Lp l w hs (fun h => reads_all _ h (verbOf_le _)) fun kr kc W hf h1 h2 => ⟨hL.far hf fun k hk e => by have := hL.size; omega, by have := hL.size; omega, by have := hL.size; omega⟩
theorem runL_small : ∀ {ts : List Lt} {xs : List Tx} {c c' : Cm}, runL ts xs c = some c' → c'.names.length ≤ c.names.length + ts.length ∧ c'.nums.length ≤ c.nums.length + ts.length
  | [], [], c, c', h => by
    simp only [runL, Option.some.injEq] at h
    subst h; exact ⟨Nat.le_refl _, Nat.le_refl _⟩
  | [], _ :: _, _, _, h => by simp [runL] at h
  | _ :: _, [], _, _, h => by simp [runL] at h
  | t :: ts, x :: xs, c, c', h => by
    unfold runL at h
    cases hs : stepL t x c with
    | none => rw [hs] at h; cases h
    | some d =>
      rw [hs] at h
      obtain ⟨a, b⟩ := runL_small h
      have hd : d.names.length ≤ c.names.length + 1 ∧ d.nums.length ≤ c.nums.length + 1 := by
        unfold stepL at hs
        split at hs
        · cases hs
        · cases t with
          | n => injection hs with hs; subst hs; simp
          | k =>
            dsimp only at hs
            split at hs
            · cases hs
            · injection hs with hs; subst hs; simp
          | h =>
            dsimp only at hs
            split at hs
            · cases hs
            · injection hs with hs; subst hs; simp
      simp only [List.length_cons]
      omega
theorem parse_small (l : Tx) : (cmdR (parseL l)).names.length ≤ maxLen ∧ (cmdR (parseL l)).nums.length ≤ maxLen := by
  have h5 : (5 : Nat) ≤ maxLen := by unfold maxLen; decide
  unfold parseL
  split
  · exact ⟨Nat.zero_le _, Nat.zero_le _⟩
  · rw [parse_ref]
    unfold refF refV
    split
    · exact ⟨Nat.zero_le _, Nat.zero_le _⟩
    · split
      · split <;> exact ⟨Nat.zero_le _, Nat.zero_le _⟩
      · have hf : ∀ v, (formV v).length ≤ 5 := fun v => by unfold formV; (repeat' split) <;> simp
        split
        · exact ⟨Nat.zero_le _, Nat.zero_le _⟩
        · rename_i c hc
          obtain ⟨a, b⟩ := runL_small hc
          have := hf (verbOf ((splitW l).headD []))
          exact ⟨Nat.le_trans a (Nat.le_trans (by show 0 + _ ≤ 5; omega) h5), Nat.le_trans b (Nat.le_trans (by show 0 + _ ≤ 5; omega) h5)⟩
section
set_option maxHeartbeats 4000000
set_option maxRecDepth 100000
theorem parses_law (l : Tx) (w : World) (hs : l.length ≤ 140737488351232) (hL : Lw w) :
    Calls Tryd.prog 3 #[st l] w fun e w' => e = .returned (.bool true) ∧ Far (fun _ => False) w w' := by
  have PA := parse_all l w hs hL
  have PB := Lib.hid (fun w => rparse_any l w hs)
  obtain ⟨sn, sm⟩ := parse_small l
  unfold PPost at PA PB
  generalize parseL l = P at *
  obtain ⟨c, hc⟩ : ∃ c, c = cmdR P := ⟨_, rfl⟩
  obtain ⟨k, hk⟩ : ∃ k, k = codeR P := ⟨_, rfl⟩
  rw [← hc] at sn sm
  rw [← hc, ← hk] at PA PB
  have RS := fun (va vb : Value) (w : World) (ha : CmI w va (upC c)) (hb : CmI w vb (upC c)) => rsame_any va vb (upC c) (upC c) w ha hb
  rw [show decide (upC c = upC c) = true by simp] at RS
  replace RS := Lib.hid RS
  have hsn := Lib.hid sn
  have hsm := Lib.hid sm
  obtain ⟨s, hS⟩ : ∃ s : ByteArray, s = ⟨l.toArray⟩ := ⟨_, rfl⟩
  have hst : st l = .string s := by unfold st; rw [hS]
  rw [hst] at PA PB ⊢
  clear hc hk P sn sm hS hst hL hs
  go_enter Tryd.func3, Tryd.ntmps3
  go_upto_region 2 with (go_at_call 10; refine PA.mono ?_; rintro e w1 ⟨hf1, V, rfl, hV⟩; have hV1 := Lib.hid hV; obtain ⟨no, nc, mo, mc, rfl, ho1, ho2⟩ := hV.form; have hf1' := Lib.hid hf1; clear hf1 ho1 ho2 hV)
  obtain ⟨k3, hk3⟩ : ∃ k, k = w1.heap.size := ⟨_, rfl⟩
  obtain ⟨w2, hw2⟩ : ∃ W, W = w1.alloc (.cells #[.int .i64 (c.v : Int), .int .i64 (c.how : Int), .slice no c.names.length nc, .slice mo c.nums.length mc, .string ⟨c.text.toArray⟩] 27) := ⟨_, rfl⟩
  rw [← hk3, ← hw2]
  have hF2 : Far (fun _ => False) w1 w2 := hw2 ▸ (Far.refl _ w1).alloc _
  have C2 := Lib.hid (hw2 ▸ Bk.new hk3 : Bk w2 k3 27 #[.int .i64 (c.v : Int), .int .i64 (c.how : Int), .slice no c.names.length nc, .slice mo c.nums.length mc, .string ⟨c.text.toArray⟩])
  have FF2 := Lib.hid (hf1'.out.then hF2)
  have V2 := Lib.hid (hV1.out.far hF2 fun _ _ h => h)
  clear hk3 hw2 hF2
  go_upto_region 3 with (go_at_call 11; refine (PB.out _).mono ?_; rintro e w3 ⟨hf3, V, rfl, hV⟩; have hV3 := Lib.hid hV; obtain ⟨no2, nc2, mo2, mc2, rfl, ho1, ho2⟩ := hV.form; have hf3' := Lib.hid hf3; clear hf3 ho1 ho2 hV)
  obtain ⟨k5, hk5⟩ : ∃ k, k = w3.heap.size := ⟨_, rfl⟩
  obtain ⟨w4, hw4⟩ : ∃ W, W = w3.alloc (.cells #[.int .i64 (c.v : Int), .int .i64 (c.how : Int), .slice no2 c.names.length nc2, .slice mo2 c.nums.length mc2, .string ⟨c.text.toArray⟩] 27) := ⟨_, rfl⟩
  rw [← hk5, ← hw4]
  have hF4 : Far (fun _ => False) w3 w4 := hw4 ▸ (Far.refl _ w3).alloc _
  have C4 := Lib.hid (hw4 ▸ Bk.new hk5 : Bk w4 k5 27 #[.int .i64 (c.v : Int), .int .i64 (c.how : Int), .slice no2 c.names.length nc2, .slice mo2 c.nums.length mc2, .string ⟨c.text.toArray⟩])
  have F24 := hf3'.out.then hF4
  have FF4 := Lib.hid (FF2.out.then F24)
  have V4 := Lib.hid (V2.out.far F24 fun _ _ h => h)
  have V5 := Lib.hid (hV3.out.far hF4 fun _ _ h => h)
  have C24 := Lib.hid (C2.out.far' F24 id)
  have ek : ((k : Int) == (k : Int)) = true := by simp
  clear hk5 hw4 hF4 F24
  go_wp2_with (first
    | (go_at_call 12; refine (head_any _).mono ?_; rintro e w5 ⟨rfl, hf5⟩; have V6 := Lib.hid (V4.out.far hf5 fun _ _ h => h); have V7 := Lib.hid (V5.out.far hf5 fun _ _ h => h); have D3 := C24.out.far' hf5 id; have D5 := C4.out.far' hf5 id; have a0 : w5.cell? ⟨k3, 0, none⟩ = some (.int .i64 (c.v : Int)) := D3.cell 0; have a1 : w5.cell? ⟨k3, 1, none⟩ = some (.int .i64 (c.how : Int)) := D3.cell 1; have a2 : w5.cell? ⟨k3, 2, none⟩ = some (.slice no c.names.length nc) := D3.cell 2; have a3 : w5.cell? ⟨k3, 3, none⟩ = some (.slice mo c.nums.length mc) := D3.cell 3; have a4 : w5.cell? ⟨k3, 4, none⟩ = some (.string ⟨c.text.toArray⟩) := D3.cell 4; have b0 : w5.cell? ⟨k5, 0, none⟩ = some (.int .i64 (c.v : Int)) := D5.cell 0; have b1 : w5.cell? ⟨k5, 1, none⟩ = some (.int .i64 (c.how : Int)) := D5.cell 1; have b2 : w5.cell? ⟨k5, 2, none⟩ = some (.slice no2 c.names.length nc2) := D5.cell 2; have b3 : w5.cell? ⟨k5, 3, none⟩ = some (.slice mo2 c.nums.length mc2) := D5.cell 3; have b4 : w5.cell? ⟨k5, 4, none⟩ = some (.string ⟨c.text.toArray⟩) := D5.cell 4; have hf5' := Lib.hid hf5; clear hf5 D3 D5)
    | (go_at_call 13; refine (RS.out _ _ _ (V6.out.cmi hsn.out hsm.out) (V7.out.cmi hsn.out hsm.out)).mono ?_; rintro e w6 ⟨rfl, hf6⟩; have hf6' := Lib.hid hf6; clear hf6))
  go_ret
  exact ⟨rfl, (FF4.out.then hf5'.out).then hf6'.out⟩
end
end Go.Proofs.YtjmgheogpglpnaaDoor
