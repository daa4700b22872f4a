import Derived.Test.YtiblcbcfdmnmhaaHe26
import Derived.Test.YtiblcbcfdmnmhaaHe27
/- The law LeaseTimes. -/
namespace Go.Proofs.Ytiblcbcfdmnmhaa
open Go.RowKit LeaseMath
set_option maxRecDepth 100000
set_option linter.unusedSimpArgs false
set_option linter.unusedVariables false

theorem times_law (zs : List Hd) (lv : Value) (now ttl : Int) (w : World) (hL : Rd holdE w lv zs) : Calls Try.prog 4 #[lv, .int .i64 now, .int .i64 ttl] w fun e w' => e = .returned (.bool true) ∧ Below w.heap.size w w' := by
  by_cases h0 : now < 0
  · exact times_low zs lv now ttl w hL h0
  by_cases h1 : 2147483647 < now
  · exact times_high zs lv now ttl w hL h1
  have g0 : 0 ≤ now := by omega
  have g1 : now ≤ 2147483647 := by omega
  cases hB : mayB holdB zs with
  | true =>
    by_cases h2 : ttl < 1
    · exact times_tl_true zs lv now ttl w hL g0 g1 h2 hB
    by_cases h3 : 1048576 < ttl
    · exact times_th_true zs lv now ttl w hL g0 g1 h3 hB
    by_cases h4 : ttl ≤ 2147483647 - now
    · exact times_t1_true zs lv now ttl w hL g0 g1 (by omega) (by omega) h4 hB
    · exact times_t2_true zs lv now ttl w hL g0 g1 (by omega) (by omega) h4 hB
  | false =>
    by_cases h2 : ttl < 1
    · exact times_tl_false zs lv now ttl w hL g0 g1 h2 hB
    by_cases h3 : 1048576 < ttl
    · exact times_th_false zs lv now ttl w hL g0 g1 h3 hB
    by_cases h4 : ttl ≤ 2147483647 - now
    · exact times_t1_false zs lv now ttl w hL g0 g1 (by omega) (by omega) h4 hB
    · exact times_t2_false zs lv now ttl w hL g0 g1 (by omega) (by omega) h4 hB
end Go.Proofs.Ytiblcbcfdmnmhaa

