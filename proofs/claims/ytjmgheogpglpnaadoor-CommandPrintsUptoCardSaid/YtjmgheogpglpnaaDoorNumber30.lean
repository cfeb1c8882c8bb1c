/-
  The program reads a number.
-/
import Derived.Test.YtjmgheogpglpnaaDoorLaidGet30
import Derived.Test.YtjmgheogpglpnaaDoorShelf
import Derived.Test.YtjmgheogpglpnaaDoorReadQ30
import Derived.Lib.AtoiErrMem
namespace Go.Proofs.YtjmgheogpglpnaaDoor
open Go.RowKit
set_option linter.unusedVariables false
set_option linter.unusedSimpArgs false
theorem below_far' {w w' : World} (h : Below w.heap.size w w') : Far (fun _ => False) w w' := ⟨h.os, h.tape, h.output, h.size, fun k hk _ => h.block k hk⟩
theorem grow_far (w : World) (os : Array Obj) : Far (fun _ => False) w (Go.Sort.grow w os) := ⟨rfl, rfl, rfl, by simp [Go.Sort.grow], fun k hk _ => by simp [Go.Sort.grow, Array.getElem?_append_left hk]⟩
/-- The library's Atoi, at every text. -/
theorem atoi_any (x : Tx) (w : World) (hx : x.length ≤ 140737488351232) (hL : Lw w) : Calls Tryd.prog 64 #[.string ⟨x.toArray⟩] w fun e w' => Far (fun _ => False) w w' ∧ match Lib.atoiAll x with
    | .ok n => e = .returned (.tuple #[.int .i64 n, .nilIface]) ∧ -9223372036854775808 ≤ n ∧ n ≤ 9223372036854775807
    | _ => ∃ n T N, e = .returned (.tuple #[.int .i64 n, .iface T (.pointer (some ⟨N, 0, none⟩))]) := by
  have hsz : (⟨x.toArray⟩ : ByteArray).size = x.length := by simp [ByteArray.size]
  obtain ⟨_, ⟨e2, h2, h2'⟩, ⟨e3, h3, h3'⟩⟩ := hL
  cases ha : Lib.atoiAll x with
  | ok n =>
    refine (Tryd.strconv_Atoi_ok ⟨x.toArray⟩ (by omega) n (by simpa using ha) w).mono ?_
    rintro e w' ⟨rfl, hw⟩
    obtain ⟨b0, b1⟩ := Lib.atoiAll_bounds ha
    refine ⟨?_, rfl, b0, b1⟩
    rcases hw with rfl | ⟨t, rfl⟩
    · exact Far.refl _ _
    · exact below_far' (Lib.bytesWorld_below _ _ _)
  | «syntax» =>
    refine (Tryd.strconv_Atoi_syntax ⟨x.toArray⟩ (by omega) (by simpa using ha) e2 w h2 h2').mono ?_
    rintro e w' ⟨N, rfl, _, _, hb⟩
    exact ⟨below_far' hb, _, _, N, rfl⟩
  | range =>
    refine (Tryd.strconv_Atoi_range ⟨x.toArray⟩ (by omega) (by simpa using ha) e3 w h3 h3').mono ?_
    rintro e w' ⟨N, rfl, _, _, hb⟩
    exact ⟨below_far' hb, _, _, N, rfl⟩
theorem itoa_any (n : Int) (w : World) (h0 : -9223372036854775808 ≤ n) (h1 : n ≤ 9223372036854775807) (hL : Lw w) : Calls Tryd.prog 38 #[.int .i64 n] w fun e w' => e = .returned (.string ⟨(Lib.itoa n).toArray⟩) ∧ Far (fun _ => False) w w' :=
  (Tryd.strconv_Itoa n h0 h1 w hL.1).mono fun e w' ⟨he, k, os, hw⟩ => ⟨he, by rw [hw]; exact ((Far.refl _ w).drewN k).then (grow_far _ _)⟩
section
set_option maxHeartbeats 4000000
set_option maxRecDepth 100000
theorem number_no (k : Nat) (s : St) (w : World) (hr : RdB w k s) (hs : s.1.length ≤ 140737488351232) (hL : Lw w) (hk : 4 ≤ k) (h : numberF s = none) :
    Calls Tryd.prog 58 #[.pointer (some ⟨k, 0, none⟩)] w fun e w' => e = .panicked wrongP ∧ Far (fun i => i = k) w w' := by
  cases hx : nameF s with
  | none =>
    have NM := name_no k s w hr hs hx
    clear hr hL h hx
    go_enter Tryd.func58, Tryd.ntmps58
    go_wp2_with (refine NM.mono ?_; rintro e w1 ⟨rfl, hf⟩; have hf' := Lib.hid hf; clear hf)
    exact ⟨rfl, rfl, hf'.out⟩
  | some p =>
    obtain ⟨x, s'⟩ := p
    have hnum : numT x = none := by
      unfold numberF at h
      rw [hx] at h
      cases hn : numT x with
      | none => rfl
      | some n => dsimp only at h; rw [hn] at h; cases h
    have hxl : x.length ≤ 140737488351232 := by
      have e := hx
      unfold nameF at e
      split at e
      · split at e
        · cases e
        · injection e with e
          injection e with e1 e2
          rw [← e1]
          rcases blank_cases s.1 with hb | ⟨a, b, hb, hb2⟩
          · rw [cutT_no hb]; exact hs
          · rw [hb] at hs ⊢
            rw [cutT_yes hb2]
            simp at hs ⊢; omega
      · cases e
    have NM := Lib.hid (name_yes k s s' x w hr hs hx)
    have AT := Lib.hid (fun W (hW : Far (fun i => i = k) w W) => atoi_any x W hxl (hL.far hW fun j hj e => by omega))
    have IT := Lib.hid (fun n h0 h1 W (hW : Far (fun i => i = k) w W) => itoa_any n W h0 h1 (hL.far hW fun j hj e => by omega))
    clear hr hL h hx
    unfold numT at hnum
    cases ha : Lib.atoiAll x with
    | ok n =>
      rw [ha] at hnum
      simp only [ha] at AT
      have hsz : (⟨x.toArray⟩ : ByteArray).size = x.length := by simp [ByteArray.size]
      have hc : ¬ (x.length ≤ 9 ∧ x = Lib.itoa n ∧ 0 ≤ n) := fun hc => by dsimp only at hnum; rw [if_pos hc] at hnum; cases hnum
      clear hnum ha
      by_cases h9 : x.length ≤ 9
      · have q9 : decide ((9 : Int) < (x.length : Int)) = false := by rw [decide_eq_false_iff_not]; omega
        have q9' : decide ((x.length : Int) > 9) = false := by rw [decide_eq_false_iff_not]; omega
        by_cases hi : x = Lib.itoa n
        · have hn0 : n < 0 := by
            by_cases h0 : 0 ≤ n
            · exact absurd ⟨h9, hi, h0⟩ hc
            · omega
          have q0 : decide (n < 0) = true := by rw [decide_eq_true_eq]; exact hn0
          have hi' := Lib.hid hi
          clear hc hi h9
          go_enter Tryd.func58, Tryd.ntmps58
          go_wp2_with (first
            | (go_at_call 55; refine NM.out.mono ?_; rintro e w1 ⟨rfl, -, hf⟩; unfold st; have hf' := Lib.hid hf; clear hf)
            | (go_at_call 64; refine (AT.out _ hf'.out).mono ?_; rintro e w2 ⟨hf2, rfl, b0, b1⟩; have hb0 := Lib.hid b0; have hb1 := Lib.hid b1; have hf2' := Lib.hid (hf'.out.trans (hf2.mono (G := fun i => i = k) fun _ _ h => h.elim) fun _ _ h => h); clear hf2 b0 b1)
            | (go_at_call 38; refine (IT.out n hb0.out hb1.out _ hf2'.out).mono ?_; rintro e w3 ⟨rfl, hf3⟩; rw [← hi'.out]; have hf3' := Lib.hid (hf2'.out.trans (hf3.mono (G := fun i => i = k) fun _ _ h => h.elim) fun _ _ h => h); clear hf3))
          exact ⟨rfl, rfl, hf3'.out⟩
        · have q1 : ((⟨x.toArray⟩ : ByteArray).toList == (⟨(Lib.itoa n).toArray⟩ : ByteArray).toList) = false := by rw [str_beq]; simpa using hi
          have q2 : (x == Lib.itoa n) = false := by simpa using hi
          have IT1 := fun W (hW : Far (fun i => i = k) w W) h0 h1 => IT.out n h0 h1 W hW
          generalize Lib.itoa n = y at IT1 q1 q2
          have IT2 := Lib.hid IT1
          clear hc hi h9 IT IT1
          go_enter Tryd.func58, Tryd.ntmps58
          go_wp2_with (first
            | (go_at_call 55; refine NM.out.mono ?_; rintro e w1 ⟨rfl, -, hf⟩; unfold st; have hf' := Lib.hid hf; clear hf)
            | (go_at_call 64; refine (AT.out _ hf'.out).mono ?_; rintro e w2 ⟨hf2, rfl, b0, b1⟩; have hb0 := Lib.hid b0; have hb1 := Lib.hid b1; have hf2' := Lib.hid (hf'.out.trans (hf2.mono (G := fun i => i = k) fun _ _ h => h.elim) fun _ _ h => h); clear hf2 b0 b1)
            | (go_at_call 38; refine (IT2.out _ hf2'.out hb0.out hb1.out).mono ?_; rintro e w3 ⟨rfl, hf3⟩; have hf3' := Lib.hid (hf2'.out.trans (hf3.mono (G := fun i => i = k) fun _ _ h => h.elim) fun _ _ h => h); clear hf3))
          exact ⟨rfl, rfl, hf3'.out⟩
      · have q9 : decide ((9 : Int) < (x.length : Int)) = true := by rw [decide_eq_true_eq]; omega
        have q9' : decide ((x.length : Int) > 9) = true := by rw [decide_eq_true_eq]; omega
        clear hc h9
        go_enter Tryd.func58, Tryd.ntmps58
        go_wp2_with (first
          | (go_at_call 55; refine NM.out.mono ?_; rintro e w1 ⟨rfl, -, hf⟩; unfold st; have hf' := Lib.hid hf; clear hf)
          | (go_at_call 64; refine (AT.out _ hf'.out).mono ?_; rintro e w2 ⟨hf2, rfl, b0, b1⟩; have hb0 := Lib.hid b0; have hb1 := Lib.hid b1; have hf2' := Lib.hid (hf'.out.trans (hf2.mono (G := fun i => i = k) fun _ _ h => h.elim) fun _ _ h => h); clear hf2 b0 b1))
        exact ⟨rfl, rfl, hf2'.out⟩
    | «syntax» =>
      simp only [ha] at AT
      clear hnum ha
      go_enter Tryd.func58, Tryd.ntmps58
      go_wp2_with (first
        | (go_at_call 55; refine NM.out.mono ?_; rintro e w1 ⟨rfl, -, hf⟩; unfold st; have hf' := Lib.hid hf; clear hf)
        | (go_at_call 64; refine (AT.out _ hf'.out).mono ?_; rintro e w2 ⟨hf2, n, T, N, rfl⟩; have hf2' := Lib.hid (hf'.out.trans (hf2.mono (G := fun i => i = k) fun _ _ h => h.elim) fun _ _ h => h); clear hf2))
      exact ⟨rfl, rfl, hf2'.out⟩
    | range =>
      simp only [ha] at AT
      clear hnum ha
      go_enter Tryd.func58, Tryd.ntmps58
      go_wp2_with (first
        | (go_at_call 55; refine NM.out.mono ?_; rintro e w1 ⟨rfl, -, hf⟩; unfold st; have hf' := Lib.hid hf; clear hf)
        | (go_at_call 64; refine (AT.out _ hf'.out).mono ?_; rintro e w2 ⟨hf2, n, T, N, rfl⟩; have hf2' := Lib.hid (hf'.out.trans (hf2.mono (G := fun i => i = k) fun _ _ h => h.elim) fun _ _ h => h); clear hf2))
      exact ⟨rfl, rfl, hf2'.out⟩
theorem name_len {s s' : St} {x : Tx} (hs : s.1.length ≤ 140737488351232) (e : nameF s = some (x, s')) : x.length ≤ 140737488351232 := by
  unfold nameF at e
  split at e
  · split at e
    · cases e
    · injection e with e
      injection e with e1 e2
      rw [← e1]
      rcases blank_cases s.1 with hb | ⟨a, b, hb, hb2⟩
      · rw [cutT_no hb]; exact hs
      · rw [hb] at hs ⊢
        rw [cutT_yes hb2]
        simp at hs ⊢; omega
  · cases e
theorem number_yes (k : Nat) (s s' : St) (m : Nat) (w : World) (hr : RdB w k s) (hs : s.1.length ≤ 140737488351232) (hL : Lw w) (hk : 4 ≤ k) (h : numberF s = some (m, s')) :
    Calls Tryd.prog 58 #[.pointer (some ⟨k, 0, none⟩)] w fun e w' => e = .returned (.int .i64 (m : Int)) ∧ RdB w' k s' ∧ Far (fun i => i = k) w w' := by
  cases hx : nameF s with
  | none => unfold numberF at h; rw [hx] at h; cases h
  | some p =>
    obtain ⟨x, s1⟩ := p
    have hnum : numT x = some m ∧ s1 = s' := by
      unfold numberF at h
      rw [hx] at h
      dsimp only at h
      cases hn : numT x with
      | none => rw [hn] at h; cases h
      | some n =>
        rw [hn] at h
        injection h with h
        injection h with h1 h2
        exact ⟨by rw [h1], h2⟩
    obtain ⟨hnum, rfl⟩ := hnum
    have hxl := name_len hs hx
    have NM := Lib.hid (name_yes k s s1 x w hr hs hx)
    have AT := Lib.hid (fun W (hW : Far (fun i => i = k) w W) => atoi_any x W hxl (hL.far hW fun j hj e => by omega))
    have IT := Lib.hid (fun n h0 h1 W (hW : Far (fun i => i = k) w W) => itoa_any n W h0 h1 (hL.far hW fun j hj e => by omega))
    clear hr hL h hx
    unfold numT at hnum
    cases ha : Lib.atoiAll x with
    | ok n =>
      rw [ha] at hnum
      simp only [ha] at AT
      have hsz : (⟨x.toArray⟩ : ByteArray).size = x.length := by simp [ByteArray.size]
      dsimp only at hnum
      by_cases hc : x.length ≤ 9 ∧ x = Lib.itoa n ∧ 0 ≤ n
      · rw [if_pos hc] at hnum
        obtain ⟨h9, hi, h0⟩ := hc
        injection hnum with hnum
        have hmn : n = (m : Int) := by omega
        subst hmn
        have q9 : decide ((9 : Int) < (x.length : Int)) = false := by rw [decide_eq_false_iff_not]; omega
        have q9' : decide ((x.length : Int) > 9) = false := by rw [decide_eq_false_iff_not]; omega
        have q0 : decide ((m : Int) < 0) = false := by rw [decide_eq_false_iff_not]; omega
        have q1 : ((⟨x.toArray⟩ : ByteArray).toList == (⟨x.toArray⟩ : ByteArray).toList) = true := by simp
        have q2 : (x == x) = true := by simp
        have hi' := Lib.hid hi
        clear hi h9 ha hnum
        go_enter Tryd.func58, Tryd.ntmps58
        go_wp2_with (first
          | (go_at_call 55; refine NM.out.mono ?_; rintro e w1 ⟨rfl, hr1, hf⟩; unfold st; have hr1' := Lib.hid hr1; clear hr1; have hf' := Lib.hid hf; clear hf)
          | (go_at_call 64; refine (AT.out _ hf'.out).mono ?_; rintro e w2 ⟨hf2, rfl, b0, b1⟩; have hg2 := Lib.hid hf2; have hb0 := Lib.hid b0; have hb1 := Lib.hid b1; have hf2' := Lib.hid (hf'.out.trans (hf2.mono (G := fun i => i = k) fun _ _ h => h.elim) fun _ _ h => h); clear hf2 b0 b1)
          | (go_at_call 38; refine (IT.out _ hb0.out hb1.out _ hf2'.out).mono ?_; rintro e w3 ⟨rfl, hf3⟩; rw [← hi'.out]; have hg3 := Lib.hid hf3; have hf3' := Lib.hid (hf2'.out.trans (hf3.mono (G := fun i => i = k) fun _ _ h => h.elim) fun _ _ h => h); clear hf3))
        go_ret
        exact ⟨rfl, (hr1'.out.far' hg2.out id).far' hg3.out id, hf3'.out⟩
      · rw [if_neg hc] at hnum; cases hnum
    | «syntax» => rw [ha] at hnum; cases hnum
    | range => rw [ha] at hnum; cases hnum
end
end Go.Proofs.YtjmgheogpglpnaaDoor
