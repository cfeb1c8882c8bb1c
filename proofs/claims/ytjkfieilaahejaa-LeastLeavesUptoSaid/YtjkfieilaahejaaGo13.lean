/-
  The program's canGo: the places of a body's empty nonterminals.
-/
import Derived.Test.YtjkfieilaahejaaWithM13
import Derived.Test.YtjkfieilaahejaaRows13
import Derived.Test.YtjkfieilaahejaaLong13
import Derived.Test.YtjkfieilaahejaaCopy
namespace Go.Proofs.Ytjkfieilaahejaa
open Go.RowKit
set_option linter.unusedVariables false
set_option linter.unusedSimpArgs false
def iv (L : List Nat) : List Value := L.map fun (k : Nat) => Value.int .i64 (k : Int)
theorem iv_one (L : List Nat) : ∀ u ∈ iv L, u.oneCell' = true := by
  intro u hu
  obtain ⟨k, _, rfl⟩ := List.mem_map.1 hu
  rfl
/-- A list of numbers of the call's own. -/
def IOwn (w : World) (B : Nat) (v : Value) (L : List Nat) : Prop := w.ownsRow B 3 1 v L.length (iv L)
theorem cons_pl {S : Nat} {em : Nat → Bool} {l : List Sy} {i : Nat} {s : Sy} (h : l[i]? = some s) : goS em s = true ↔ s.1 = false ∧ em s.2.toNat = true := by
  unfold goS
  cases s.1 <;> simp
section
set_option maxHeartbeats 4000000
set_option maxRecDepth 100000
theorem cango_any (v : Value) (l : List Sy) (g n : Nat) (em : Nat → Bool) (w : World) (hB : Body w v l) (hl : l.length ≤ 1099511627776) (hE : BRow w g n em) (hin : ∀ x ∈ l, SymIn n x) (hn : n ≤ 1024) :
    Calls Try.prog 21 #[v, .slice (some ⟨g, 0, none⟩) n n] w fun e w' => ∃ v', e = .returned v' ∧ IOwn w' w.heap.size v' (placesF em 0 l) ∧ Far (fun _ => False) w w' := by
  obtain ⟨vo, vc, rfl⟩ := Src.form hB
  have hB' := Lib.hid hB
  have hE' := Lib.hid hE
  have hin' := Lib.hid hin
  clear hB hE hin
  go_enter Try.func21, Try.ntmps21
  go_wp2_with fail
  obtain ⟨pi, pz, pi1, pi2, pi3, pi4, pi5⟩ := info3 (show (Try.prog.info? 3).map (fun i => (i.zero.map (·.cells.size), i.size, i.bytes)) = some (some 1, 1, 8) by kernel_rfl)
  have A7 : 0 < 1 := by decide
  go_loopw [5, 10] (fun lv iv' wr => ∃ i : Nat, iv' = .int .i64 i ∧ i ≤ l.length ∧ IOwn wr w.heap.size lv (placesF em 0 (l.take i)) ∧ Far (fun k => w.heap.size ≤ k) w wr) (fun _ iv' _ => l.length - (intOf iv').toNat)
  case atStart => exact ⟨0, rfl, Nat.zero_le _, World.ownsRow_nil _ _ _ _, Far.refl _ _⟩
  case round =>
    obtain ⟨i, rfl, hi, hO, hf⟩ := hrel
    obtain ⟨lo, lc, rfl⟩ := Src.form (Src.own hO)
    have hO' := Lib.hid hO
    have hf' := Lib.hid hf
    have hpl := Lib.hid (Nat.le_trans (places_bound em (l.take i) 0) (by rw [List.length_take]; exact Nat.min_le_left _ _))
    have hfw : Far (fun _ => False) w wr := hf.mono fun k hk e => by omega
    have hz1 : w.heap.size ≤ wr.heap.size := hf.size
    by_cases hlt : i < l.length
    · have e1 : decide ((i : Int) < (l.length : Int)) = true := by rw [decide_eq_true_eq]; omega
      have hii : (i : Int) < (l.length : Int) := by omega
      obtain ⟨x, hx⟩ : ∃ x, l[i]? = some x := ⟨l[i], List.getElem?_eq_getElem hlt⟩
      obtain ⟨b, off, c, he, hbl, c0, c1⟩ := (hB'.out.move hfw).sym hx
      simp only [Value.slice.injEq] at he
      obtain ⟨rfl, _, rfl⟩ := he
      have hxi := hin'.out x (List.mem_of_getElem? hx)
      obtain ⟨xb, xn⟩ := x
      simp only [] at c0 c1
      have hE2 := Lib.hid (show BRow wr g n em from Bk.far' hE'.out hfw id)
      have hst := Lib.hid (places_take em l 0 i (xb, xn) hx)
      have hpos := Lib.hid (List.getElem?_eq_some_iff.1 hx)
      clear hO hf hfw hx
      cases xb with
      | true =>
        have hs2 := Lib.hid (show placesF em 0 (l.take (i + 1)) = placesF em 0 (l.take i) by rw [hst.out]; simp [goS])
        clear hxi
        go_wp2_with fail
        go_roundw
        case rel => exact ⟨i + 1, by go_num, by omega, by rw [hs2.out]; exact row_far hO'.out (alloc_far0 _ _) fun _ _ h => h, hf'.out.alloc _⟩
        case measure => simp [intOf]; omega
      | false =>
        obtain ⟨h0, h1⟩ := hxi rfl
        obtain ⟨k, rfl⟩ : ∃ k : Nat, xn = (k : Int) := ⟨xn.toNat, by omega⟩
        have hk : k < n := by omega
        have hkI : (k : Int) < (n : Int) := by omega
        have d0 : wr.cell? ⟨g, k, none⟩ = some (.bool (em k)) := BRow.at hE2.out hk
        have hgl : g < wr.heap.size := Bk.lt hE2.out
        clear h0 h1
        by_cases hem : em k = true
        · rw [hem] at d0
          have hs2 := Lib.hid (show placesF em 0 (l.take (i + 1)) = placesF em 0 (l.take i) ++ [i] by rw [hst.out]; simp [goS, hem])
          clear hem
          have W1 := Lib.hid (alloc_far0 wr (.cells #[.bool false, .int .i64 (k : Int)] 50))
          have B1 := Lib.hid ((row_far hO'.out W1.out fun _ _ h => h).alloc (.cells #[.int .i64 (i : Int)] 3))
          have B2' := src_new (wr.alloc (.cells #[.bool false, .int .i64 (k : Int)] 50)) 3 [.int .i64 (i : Int)]
          rw [World.size_alloc] at B2'
          have B2 := Lib.hid B2'
          clear B2'
          have B3 := Lib.hid (show ∀ u ∈ [(.int .i64 (i : Int) : Value)], u.oneCell' = true by simp [Value.oneCell'])
          have B4 : (placesF em 0 (l.take i)).length + 1 ≤ maxLen := by unfold maxLen; have := hpl.out; omega
          have B5 : ((placesF em 0 (l.take i)).length + 1) * 8 ≤ 140737488355328 := by have := hpl.out; omega
          have B6 : w.heap.size ≤ ((wr.alloc (.cells #[.bool false, .int .i64 (k : Int)] 50)).alloc (.cells #[.int .i64 (i : Int)] 3)).heap.size := by simp; omega
          have hown := Lib.hid (fun q (e : (Value.slice lo (placesF em 0 (l.take i)).length lc).ownBlock = some q) => (hO'.out.lt q e).1)
          unfold IOwn at *
          go_wp2_with (at_builtin; refine wpList_app rfl _ _ 33 rfl w.heap.size 3 pi pz 1 8 Try.underlying33 pi1 pi2 pi3 pi4 pi5 A7 (.slice lo (placesF em 0 (l.take i)).length lc) (placesF em 0 (l.take i)).length _ rfl B1.out (.slice (some ⟨wr.heap.size + 1, 0, none⟩) 1 1) 1 _ rfl B2.out B3.out B4 B5 B6 ?_; intro v2 w5 ho5 hg5; have ho5' := Lib.hid ho5; have hg5' := Lib.hid hg5; clear ho5 hg5)
          go_roundw
          case rel =>
            refine ⟨i + 1, by go_num, by omega, ?_, ?_⟩
            · rw [hs2.out, List.length_append]
              show World.ownsRow _ _ _ _ _ _ (iv (placesF em 0 (l.take i) ++ [i]))
              have := ho5'.out
              unfold iv at *
              rw [List.map_append]
              exact this
            · exact (((hf'.out.alloc _).alloc _).trans ((grown_far hg5'.out).mono (G := fun k => w.heap.size ≤ k) fun q _ e => hown.out q e) fun _ _ h => h)
          case measure => simp [intOf]; omega
        · have hem' : em k = false := by simpa using hem
          rw [hem'] at d0
          have hs2 := Lib.hid (show placesF em 0 (l.take (i + 1)) = placesF em 0 (l.take i) by rw [hst.out]; simp [goS, hem'])
          clear hem hem'
          go_wp2_with fail
          go_roundw
          case rel => exact ⟨i + 1, by go_num, by omega, by rw [hs2.out]; exact row_far hO'.out (alloc_far0 _ _) fun _ _ h => h, hf'.out.alloc _⟩
          case measure => simp [intOf]; omega
    · have e1 : decide ((i : Int) < (l.length : Int)) = false := by rw [decide_eq_false_iff_not]; omega
      have ht := Lib.hid (show l.take i = l from List.take_of_length_le (by omega))
      clear hO hf hfw
      go_wp2_with fail
      go_ret
      refine ⟨.slice lo (placesF em 0 (l.take i)).length lc, rfl, ?_, hf'.out.mono fun k hk e => by omega⟩
      have h9 := hO'.out
      rw [ht.out] at h9 ⊢
      exact h9
end
end Go.Proofs.Ytjkfieilaahejaa
