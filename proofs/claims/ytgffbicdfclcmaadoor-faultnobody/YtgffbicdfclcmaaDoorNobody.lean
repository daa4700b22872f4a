/- The walk of the law FaultNobody: it answers true at every code, and what lay in memory before stays as it was. -/
import Derived.Test.YtgffbicdfclcmaaDoorAwake
import Derived.Test.YtgffbicdfclcmaaDoorDepth
import Derived.Test.YtgffbicdfclcmaaDoorDigits
namespace Go.Proofs.YtgffbicdfclcmaaDoor
open Go.RowKit
set_option maxRecDepth 100000

theorem ops_nil (w : World) (hg : Door w) : Calls Tryd.prog 10 #[.nilIface] w fun e w' => ∃ a cap, e = .returned (.slice a 0 cap) ∧ Below w.heap.size w w' := by
  refine (ops_of [] none .nilIface w hg rfl (by simp)).mono ?_
  rintro e w' ⟨sv, rfl, hown, hb⟩
  rcases hown.2 with ⟨hv, _⟩ | ⟨g, cap, cur, hv, _⟩
  · exact ⟨none, 0, by rw [hv], hb⟩
  · exact ⟨_, cap, by rw [hv]; rfl, hb⟩

set_option maxHeartbeats 4000000 in
theorem nobody_law (n : Int) (w : World) (hg : Door w) (hn : n ≤ 9223372036854775807) : Calls Tryd.prog 7 #[.int .i64 n] w fun e w' => e = .returned (.bool true) ∧ Below w.heap.size w w' := by
  have hlen := codeText_length n hn
  go_enter Tryd.func7, Tryd.ntmps7
  go_wp2_with fail
  refine (first_of [] (some n) _ w hg rfl).mono ?_
  rintro e w1 ⟨rfl, b1⟩
  have g1 := hg.below b1
  dsimp only [firstI, Option.getD]
  go_wp2_with fail
  refine (text_nil w1 g1).mono ?_
  rintro e w2 ⟨rfl, b2⟩
  have b2' := b1.trans (b2.mono b1.size)
  have hT := text_of [] (some n) (.iface 30 (.int .i64 n)) w2 (hg.below b2') rfl (.inr (by simp)) (by simp) (by intro m hm; cases hm; exact hn) (by simp [restB]; omega)
  rw [show restB true [] (some n) = codeText n by simp [restB]] at hT
  go_wp2_with fail
  refine hT.mono ?_
  rintro e w3 ⟨rfl, b3⟩
  have b3' := b2'.trans (b3.mono b2'.size)
  clear hT
  go_wp2_with fail
  refine (plain_of n w3 hn).mono ?_
  rintro e w4 ⟨rfl, b4⟩
  have b4' := b3'.trans (b4.mono b3'.size)
  go_wp2_with fail
  have hH := has_of [] none .nilIface n w4 rfl
  rw [show hasB [] none n = false from rfl] at hH
  refine hH.mono ?_
  rintro e wx ⟨rfl, hwx⟩
  subst hwx
  clear hH
  go_wp2_with fail
  refine (first_of [] none _ wx (hg.below b4') rfl).mono ?_
  rintro e w5 ⟨rfl, b5⟩
  have b5' := b4'.trans (b5.mono b4'.size)
  dsimp only [firstI, Option.getD]
  go_wp2_with fail
  refine (ops_nil w5 (hg.below b5')).mono ?_
  rintro e w6 ⟨a6, cap6, rfl, b6⟩
  have b6' := b5'.trans (b6.mono b5'.size)
  go_wp2_with fail
  refine (depth_of [] none _ w6 (hg.below b6') rfl (by simp)).mono ?_
  rintro e w7 ⟨rfl, b7⟩
  have b7' := b6'.trans (b7.mono b6'.size)
  go_wp2_with fail
  refine (depth_of [] (some n) _ w7 (hg.below b7') rfl (by simp)).mono ?_
  rintro e w8 ⟨rfl, b8⟩
  have b8' := b7'.trans (b8.mono b7'.size)
  go_wp2_with fail
  refine (awake_of w8 (hg.below b8')).mono ?_
  rintro e w9 ⟨rfl, b9⟩
  have b9' := b8'.trans (b9.mono b8'.size)
  go_wp2
  go_ret
  exact ⟨rfl, b9'⟩
end Go.Proofs.YtgffbicdfclcmaaDoor
