/- The contracts of a nil reader's methods: zero values, ErrText; nothing turns. -/
import Derived.Test.YtjimippblgddbaaBs
import Derived.Deep.LoopGhost
namespace Go.Proofs.Ytjimippblgddbaa
open Go.RowKit WireMath
set_option maxRecDepth 100000
set_option linter.unusedSimpArgs false

theorem err_nil (w : World) : Calls Try.prog 20 #[.pointer none] w fun e w' => e = .returned (.int .i64 5) ∧ w' = w := by
  go_enter Try.func20, Try.ntmps20
  go_wp2
  go_ret
  exact ⟨rfl, rfl⟩
theorem left_nil (w : World) : Calls Try.prog 19 #[.pointer none] w fun e w' => e = .returned (.int .i64 0) ∧ w' = w := by
  go_enter Try.func19, Try.ntmps19
  go_wp2
  go_ret
  exact ⟨rfl, rfl⟩
theorem done_nil (w : World) : Calls Try.prog 18 #[.pointer none] w fun e w' => e = .returned (.int .i64 5) ∧ w' = w := by
  go_enter Try.func18, Try.ntmps18
  go_wp2_with (go_at_call 20; refine (err_nil _).mono ?_; rintro e wx ⟨rfl, hwx⟩; subst hwx)
  go_ret
  exact ⟨rfl, rfl⟩
theorem rest_nil (w : World) : Calls Try.prog 43 #[.pointer none] w fun e w' => e = .returned (.slice none 0 0) ∧ w' = w := by
  go_enter Try.func43, Try.ntmps43
  go_wp2_with (go_at_call 20; refine (err_nil _).mono ?_; rintro e wx ⟨rfl, hwx⟩; subst hwx)
  go_ret
  exact ⟨rfl, rfl⟩
theorem fail_nil (c : Int) (w : World) : Calls Try.prog 44 #[.pointer none, .int .i64 c] w fun e w' => e = .returned (.tuple #[]) ∧ w' = w := by
  go_enter Try.func44, Try.ntmps44
  go_wp2_with (go_at_call 20; refine (err_nil _).mono ?_; rintro e wx ⟨rfl, hwx⟩; subst hwx)
  go_end0
  exact ⟨rfl, rfl⟩
theorem skip_nil (w : World) : Calls Try.prog 40 #[.pointer none, .int .i64 0] w fun e w' => e = .returned (.tuple #[]) ∧ w' = w := by
  go_enter Try.func40, Try.ntmps40
  go_wp2
  go_end0
  exact ⟨rfl, rfl⟩
theorem first_nil (w : World) : Calls Try.prog 47 #[.slice none 0 0] w fun e w' => e = .returned (.tuple #[.int .u64 0, .int .i64 0]) ∧ w' = w := by
  go_enter Try.func47, Try.ntmps47
  go_wp2
  refine wp_loop_rounds 1 ?_
  rw [rounds_succ]
  go_wp2
  go_ret2
  exact ⟨rfl, rfl⟩
theorem peek_nil (w : World) : Calls Try.prog 39 #[.pointer none] w fun e w' => e = .returned (.tuple #[.int .u64 0, .int .i64 0]) ∧ w' = w := by
  go_enter Try.func39, Try.ntmps39
  go_wp2_with fail
  refine (rest_nil _).mono ?_
  rintro e wx ⟨rfl, hwx⟩
  subst hwx
  go_wp2_with fail
  refine (first_nil _).mono ?_
  rintro e wy ⟨rfl, hwy⟩
  subst hwy
  go_wp2_with fail
  refine (fail_nil _ _).mono ?_
  rintro e wz ⟨rfl, hwz⟩
  subst hwz
  go_wp2
  go_ret2
  exact ⟨rfl, rfl⟩
theorem peekM_nil (m : Int) (hm2 : m ≤ 9223372036854775807) (w : World) : Calls Try.prog 42 #[.pointer none, .int .i64 m] w fun e w' => e = .returned (.tuple #[.int .u64 0, .int .i64 0]) ∧ w' = w := by
  by_cases hneg : m < 0
  · go_enter Try.func42, Try.ntmps42
    go_wp2_with fail
    refine (peek_nil _).mono ?_
    rintro e wx ⟨rfl, hwx⟩
    subst hwx
    go_wp2_with fail
    refine (fail_nil _ _).mono ?_
    rintro e wz ⟨rfl, hwz⟩
    subst hwz
    go_wp2
    go_ret2
    exact ⟨rfl, rfl⟩
  · have hneg2 : 0 ≤ m := by omega
    have q1 : IntKind.u64.wrap m = m := by rw [IntKind.wrap_u64]; omega
    go_enter Try.func42, Try.ntmps42
    go_wp2_with fail
    refine (peek_nil _).mono ?_
    rintro e wx ⟨rfl, hwx⟩
    subst hwx
    go_wp2
    go_ret2
    exact ⟨rfl, rfl⟩
theorem uvarint_nil (w : World) : Calls Try.prog 13 #[.pointer none] w fun e w' => e = .returned (.int .u64 0) ∧ w' = w := by
  go_enter Try.func13, Try.ntmps13
  go_wp2_with fail
  refine (peek_nil _).mono ?_
  rintro e wx ⟨rfl, hwx⟩
  subst hwx
  go_wp2_with fail
  refine (skip_nil _).mono ?_
  rintro e wy ⟨rfl, hwy⟩
  subst hwy
  go_wp2
  go_ret
  exact ⟨rfl, rfl⟩
theorem varint_nil (w : World) : Calls Try.prog 14 #[.pointer none] w fun e w' => e = .returned (.int .i64 0) ∧ w' = w := by
  go_enter Try.func14, Try.ntmps14
  go_wp2_with fail
  refine (uvarint_nil _).mono ?_
  rintro e wx ⟨rfl, hwx⟩
  subst hwx
  go_wp2
  go_ret
  exact ⟨rfl, rfl⟩
theorem fixed_nil (k : Nat) (hk : 0 < k) (w : World) : Calls Try.prog 41 #[.pointer none, .int .i64 (k : Int)] w fun e w' => e = .returned (.int .u64 0) ∧ w' = w := by
  have hk' : (0 : Int) < (k : Int) := by omega
  go_enter Try.func41, Try.ntmps41
  go_wp2_with fail
  refine (rest_nil _).mono ?_
  rintro e wx ⟨rfl, hwx⟩
  subst hwx
  go_wp2_with fail
  refine (fail_nil _ _).mono ?_
  rintro e wy ⟨rfl, hwy⟩
  subst hwy
  go_wp2
  go_ret
  exact ⟨rfl, rfl⟩
theorem fixed4_nil (w : World) : Calls Try.prog 15 #[.pointer none] w fun e w' => e = .returned (.int .u32 0) ∧ w' = w := by
  go_enter Try.func15, Try.ntmps15
  go_wp2_with fail
  refine (fixed_nil 4 (by decide) _).mono ?_
  rintro e wx ⟨rfl, hwx⟩
  subst hwx
  go_wp2
  go_ret
  exact ⟨rfl, rfl⟩
theorem fixed8_nil (w : World) : Calls Try.prog 16 #[.pointer none] w fun e w' => e = .returned (.int .u64 0) ∧ w' = w := by
  go_enter Try.func16, Try.ntmps16
  go_wp2_with fail
  refine (fixed_nil 8 (by decide) _).mono ?_
  rintro e wx ⟨rfl, hwx⟩
  subst hwx
  go_wp2
  go_ret
  exact ⟨rfl, rfl⟩
theorem byte_nil (w : World) : Calls Try.prog 23 #[.pointer none] w fun e w' => e = .returned (.int .u8 0) ∧ w' = w := by
  go_enter Try.func23, Try.ntmps23
  go_wp2_with fail
  refine (fixed_nil 1 (by decide) _).mono ?_
  rintro e wx ⟨rfl, hwx⟩
  subst hwx
  go_wp2
  go_ret
  exact ⟨rfl, rfl⟩
theorem number_nil (m : Int) (hm2 : m ≤ 9223372036854775807) (w : World) : Calls Try.prog 24 #[.pointer none, .int .i64 m] w fun e w' => e = .returned (.int .i64 0) ∧ w' = w := by
  go_enter Try.func24, Try.ntmps24
  go_wp2_with fail
  refine (peekM_nil _ hm2 _).mono ?_
  rintro e wx ⟨rfl, hwx⟩
  subst hwx
  go_wp2_with fail
  refine (skip_nil _).mono ?_
  rintro e wy ⟨rfl, hwy⟩
  subst hwy
  go_wp2
  go_ret
  exact ⟨rfl, rfl⟩
theorem bytes_nil (m : Int) (hm2 : m ≤ 9223372036854775807) (w : World) : Calls Try.prog 17 #[.pointer none, .int .i64 m] w fun e w' => e = .returned (.slice none 0 0) ∧ w' = w := by
  go_enter Try.func17, Try.ntmps17
  go_wp2_with fail
  refine (peekM_nil _ hm2 _).mono ?_
  rintro e wx ⟨rfl, hwx⟩
  subst hwx
  go_wp2
  go_ret
  exact ⟨rfl, rfl⟩
end Go.Proofs.Ytjimippblgddbaa
