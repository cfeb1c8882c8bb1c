/-
  The document's Add: what it answers, at all bodies.
-/
import Derived.Test.YtjkfieilaahejaaRLongW14
namespace Go.Proofs.Ytjkfieilaahejaa
open Go.RowKit
set_option linter.unusedVariables false
set_option linter.unusedSimpArgs false
theorem radd_any (B gL cL : Nat) (qv : Value) (T : List Tr) (s : Fs) (h : Int) (v : Value) (l : List Sy) (w : World) (hM : RM w B gL cL qv T s) (hv : QB w B v l) (hps : s.ps.length + l.length * 3 + 9 ≤ 1099511627776) (hn : s.n + l.length * 3 + 9 ≤ 1099511627776) (hlk : ∀ x ∈ l, 0 ≤ x.2 ∧ (x.1 = true → x.2 < 16)) :
    Calls Try.prog 40 #[.agg #[.int .i64 (s.n : Int), qv, .slice (some ⟨gL, 0, none⟩) 16 cL, .int .i64 (eI s.e)], .agg #[.int .i64 h, v]] w fun e w' => APost B gL cL qv (addR s h l) w e w' := by
  by_cases hsh : shortB l = true
  · exact radd_short B gL cL qv T s h v l w hM hv hps hn hsh
  · have hsh : shortB l = false := by simpa using hsh
    by_cases h1 : l.length = 1
    · exact radd_one B gL cL qv T s h v l w hM hv hps hn hsh h1
    · by_cases hb : 1026 < l.length
      · exact radd_big B gL cL qv T s h v l w hM hv hps hn hsh h1 hb
      · exact radd_long B gL cL qv T s h v l w hM hv hps hn hsh h1 (by omega) hlk
end Go.Proofs.Ytjkfieilaahejaa
