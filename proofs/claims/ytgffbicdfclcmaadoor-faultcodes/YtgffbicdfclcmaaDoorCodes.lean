/- The walk of the law FaultCodes: it answers true at every slice of causes and every code, and what lay in memory before stays as it was. -/
import Derived.Test.YtgffbicdfclcmaaDoorRefs
import Derived.Test.YtgffbicdfclcmaaDoorAwake
namespace Go.Proofs.YtgffbicdfclcmaaDoor
open Go.RowKit
set_option maxRecDepth 100000

theorem take_len (zs : List (ByteArray × Int)) : (zs.take 200).length ≤ 200 := by rw [List.length_take]; omega
theorem Causes.len {n₀ : Nat} {w : World} {a : Option Addr} {len cap : Nat} {zs : List (ByteArray × Int)} (h : Causes n₀ w (.slice a len cap) zs) : len = zs.length := by
  rcases h with ⟨_, _, h1, rfl⟩ | ⟨b, off, c, h1, _, _⟩
  · cases h1; rfl
  · cases h1; rfl

set_option maxHeartbeats 4000000 in
theorem codes_law (zs : List (ByteArray × Int)) (a : Option Addr) (len cap : Nat) (n : Int) (w : World) (hg : Door w) (hC : Causes w.heap.size w (.slice a len cap) zs) (hcap : len ≤ cap) (hm : len ≤ 9223372036854775807) :
    Calls Tryd.prog 4 #[.slice a len cap, .int .i64 n] w fun e w' => e = .returned (.bool true) ∧ Below w.heap.size w w' := by
  have hcut := cut_of w.heap.size zs a len cap w hC hcap hm
  go_enter Tryd.func4, Tryd.ntmps4
  go_wp2_with fail
  refine hcut.mono ?_
  rintro e wx ⟨a', len', cap', rfl, hC', hwx⟩
  subst hwx
  clear hcut hC
  have hl : len' ≤ 200 := by rw [hC'.len]; exact take_len zs
  generalize zs.take 200 = ys at hC'
  have hyl : ys.length ≤ 200 := by rw [← hC'.len]; exact hl
  go_wp2_with fail
  refine (chain_of ys a' len' cap' wx (by omega) hC').mono ?_
  rintro e w1 ⟨v, rfl, he, b1⟩
  have C1 := hC'.below b1
  go_wp2_with fail
  refine (has_of ys none v n w1 he).mono ?_
  rintro e wy ⟨rfl, hwy⟩
  subst hwy
  go_wp2_with fail
  refine (refHas_of _ ys a' len' cap' n wy C1 (by omega)).mono ?_
  rintro e wz ⟨rfl, hwz⟩
  subst hwz
  go_wp2_with fail
  refine (Is_code ys none v n wz he).mono ?_
  rintro e wy ⟨rfl, hwy⟩
  subst hwy
  go_wp2_with fail
  refine (refHas_of _ ys a' len' cap' n wy C1 (by omega)).mono ?_
  rintro e wz ⟨rfl, hwz⟩
  subst hwz
  go_wp2_with fail
  refine (first_of ys none v wz (hg.below b1) he).mono ?_
  rintro e w2 ⟨rfl, b2⟩
  have b2' := b1.trans (b2.mono b1.size)
  have C2 := hC'.below b2'
  go_wp2_with fail
  refine (refFirst_of _ ys a' len' cap' w2 C2 (by omega)).mono ?_
  rintro e wy ⟨rfl, hwy⟩
  subst hwy
  go_wp2_with fail
  refine (awake_of wy (hg.below b2')).mono ?_
  rintro e w3 ⟨rfl, b3⟩
  have b3' := b2'.trans (b3.mono b2'.size)
  go_wp2
  go_ret
  exact ⟨rfl, b3'⟩
end Go.Proofs.YtgffbicdfclcmaaDoor
